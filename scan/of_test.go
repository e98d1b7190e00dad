package scan_test

import (
	"math"
	"slices"
	"testing"

	"wagtail/api"
	"wagtail/scan"
)

// found is a find of a place, others of each mark.
func found(block, page, mark int) api.Found {
	return api.Found{At: at(block, page), H: api.Head{Kind: 2 + mark%4, Count: 1, Batch: uint64(mark), Lpn: mark}}
}

// holdsOf holds what Of tells of a block.
func holdsOf(t *testing.T, l []api.Found, block int, want ...api.Found) {
	t.Helper()
	if got := scan.Of(l, block); !slices.Equal(got, want) {
		t.Errorf("Of(%v, %d) = %v, not %v", l, block, got, want)
	}
}

// P18.3: of no finds none is of any block.
func TestOfNone(t *testing.T) {
	for _, block := range append(beside(), 0, 1, 2, 33) {
		holdsOf(t, nil, block)
		holdsOf(t, []api.Found{}, block)
	}
}

// P18.3: of finds of one block all are of it, and none of another one.
func TestOfOneBlock(t *testing.T) {
	l := []api.Found{found(5, 0, 1), found(5, 1, 2), found(5, 3, 3)}
	holdsOf(t, l, 5, l...)
	holdsOf(t, l[:1], 5, l[0])
	for _, block := range append(beside(), 0, 1, 2, 4, 6, 33) {
		holdsOf(t, l, block)
	}
}

// P18.3: of finds of several blocks, in whatever order, those of a block in the order in which they stand there.
func TestOfSeveralBlocks(t *testing.T) {
	a, b, c, x, y := found(2, 0, 1), found(2, 1, 2), found(2, 2, 3), found(3, 0, 4), found(33, 31, 5)
	for _, l := range [][]api.Found{{a, b, c, x, y}, {y, x, a, b, c}, {a, x, b, y, c}, {x, a, b, y, c}} {
		holdsOf(t, l, 2, a, b, c)
		holdsOf(t, l, 3, x)
		holdsOf(t, l, 33, y)
		holdsOf(t, l, 4)
	}
	holdsOf(t, []api.Found{c, x, a, y, b}, 2, c, a, b)
	holdsOf(t, []api.Found{y, b, a, x}, 2, b, a)
}

// P18.3: a find that comes twice is told twice, also where another one is between.
func TestOfTheSameTwice(t *testing.T) {
	a, b, x := found(4, 0, 1), found(4, 1, 2), found(5, 0, 3)
	holdsOf(t, []api.Found{a, a}, 4, a, a)
	holdsOf(t, []api.Found{a, x, b, a, x}, 4, a, b, a)
	holdsOf(t, []api.Found{a, x, b, a, x}, 5, x, x)
	// Two of one place, of other heads, are two.
	other := found(4, 0, 7)
	holdsOf(t, []api.Found{other, a}, 4, other, a)
}

// P18.3: a number counts as it is, whether a device has such a block or not, and whether a find may be or not.
func TestOfNumbersOfNoBlock(t *testing.T) {
	var l []api.Found
	for i, n := range append(beside(), 0, 1, 7) {
		l = append(l, found(n, math.MaxInt-i, i))
	}
	l = append(l, api.Found{At: at(-1, math.MinInt), H: api.Head{Kind: -3, Index: math.MinInt, Count: math.MaxInt, Batch: math.MaxUint64, Open: math.MaxUint64, Lpn: -9, Len: 1 << 40}})
	for _, f := range l {
		if f.At.Block != -1 {
			holdsOf(t, l, f.At.Block, f)
		}
	}
	got := scan.Of(l, -1)
	if len(got) != 2 || got[1] != l[len(l)-1] {
		t.Errorf("%v", got)
	}
}

// P18.3: long lists, held against another way to tell them.
func TestOfManyFinds(t *testing.T) {
	for seed := range 30 {
		x := dice(seed)
		var l []api.Found
		of := map[int][]api.Found{}
		for n := range x.below(2000) {
			f := found(x.below(34), x.below(32), n)
			l = append(l, f)
			of[f.At.Block] = append(of[f.At.Block], f)
		}
		for block := range 36 {
			if got := scan.Of(l, block); !slices.Equal(got, of[block]) {
				t.Fatalf("seed %d, block %d: %v", seed, block, got)
			}
		}
	}
}
