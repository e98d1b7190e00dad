package place_test

import (
	"math"
	"slices"
	"testing"

	"wagtail/api"
	"wagtail/place"
)

// holdsUsed holds that places are in these blocks.
func holdsUsed(t *testing.T, l []api.Place, want ...int) {
	t.Helper()
	if got := place.Used(l); !slices.Equal(got, want) {
		t.Fatalf("Used(%v) = %d, not %d", l, got, want)
	}
}

// holdsCount holds that so many places are in a block.
func holdsCount(t *testing.T, l []api.Place, block, want int) {
	t.Helper()
	if got := place.Count(l, block); got != want {
		t.Fatalf("Count(%v, %d) = %d, not %d", l, block, got, want)
	}
}

// holdsFree holds that these of some blocks are free.
func holdsFree(t *testing.T, some, bad []int, l []api.Place, want ...int) {
	t.Helper()
	if got := place.Free(some, bad, l); !slices.Equal(got, want) {
		t.Fatalf("Free(%d, %d, %v) = %d, not %d", some, bad, l, got, want)
	}
}

// holdsStuck holds that these of some places are in bad blocks.
func holdsStuck(t *testing.T, l []api.Place, bad []int, want ...api.Place) {
	t.Helper()
	if got := place.Stuck(l, bad); !slices.Equal(got, want) {
		t.Fatalf("Stuck(%v, %d) = %v, not %v", l, bad, got, want)
	}
}

// P20.2 (Used): the blocks of no places, of places of one block, of several, rising, each once.
func TestUsed(t *testing.T) {
	holdsUsed(t, nil)
	holdsUsed(t, []api.Place{})
	holdsUsed(t, []api.Place{at(5, 0)}, 5)
	holdsUsed(t, []api.Place{at(5, 0), at(5, 1), at(5, 0)}, 5)
	for _, l := range orders([]api.Place{at(5, 0), at(3, 9), at(-2, 1), at(3, 9), at(0, 0), at(3, 4)}) {
		holdsUsed(t, l, -2, 0, 3, 5)
	}
	var l []api.Place
	for _, block := range ends() {
		l = append(l, at(block, -block), at(0, block))
	}
	holdsUsed(t, l, ends()...)
	slices.Reverse(l)
	holdsUsed(t, l, ends()...)
}

// P20.2 (Count): how many places are in a block that is used, and in one that is not: a place that comes twice counts twice.
func TestCount(t *testing.T) {
	l := []api.Place{at(5, 3), at(3, 5), at(-2, 7), at(3, 9), at(3, 5), at(5, 3)}
	for block, want := range map[int]int{3: 3, 5: 2, -2: 1, 7: 0, 9: 0, 0: 0, 2: 0, -3: 0, math.MinInt: 0, math.MaxInt: 0} {
		holdsCount(t, l, block, want)
		holdsCount(t, nil, block, 0)
		holdsCount(t, []api.Place{}, block, 0)
	}
	l = nil
	for i, block := range ends() {
		for k := range i {
			l = append(l, at(block, ends()[k]))
		}
	}
	for i, block := range ends() {
		holdsCount(t, l, block, i)
	}
}

// P20.2 (Free): the blocks that are neither bad nor used, in the order in which they are told, and as often: of none, of bad ones, of used ones.
func TestFree(t *testing.T) {
	l := []api.Place{at(3, 1), at(5, 0), at(3, 2)}
	holdsFree(t, nil, nil, nil)
	holdsFree(t, []int{}, []int{2}, l)
	holdsFree(t, nil, []int{2}, l)
	holdsFree(t, []int{2, 3, 4, 5, 6}, nil, nil, 2, 3, 4, 5, 6)
	holdsFree(t, []int{2, 3, 4, 5, 6}, nil, l, 2, 4, 6)
	holdsFree(t, []int{2, 3, 4, 5, 6}, []int{6, 2}, nil, 3, 4, 5)
	holdsFree(t, []int{2, 3, 4, 5, 6}, []int{6, 2}, l, 4)
	holdsFree(t, []int{2, 3, 4, 5, 6}, []int{6, 5, 2, 3, 5}, l, 4)
	holdsFree(t, []int{2, 3, 4, 5, 6}, []int{6, 2, 4}, l)
	holdsFree(t, []int{6, 3, 2, 5, 4}, nil, l, 6, 2, 4)
	holdsFree(t, []int{4, 6, 3, 4, 2, 6, 3, 4, 5}, []int{2, 8}, l, 4, 6, 4, 6, 4)
	holdsFree(t, []int{0, 1, 2}, nil, []api.Place{at(9, 0), at(8, 1), at(7, 2)}, 0, 1, 2)
}

// P20.2 (Free): blocks at the ends of their type.
func TestFreeAtTheEnds(t *testing.T) {
	falling := ends()
	slices.Reverse(falling)
	holdsFree(t, falling, nil, nil, falling...)
	for i, block := range falling {
		others := slices.Delete(slices.Clone(falling), i, i+1)
		holdsFree(t, falling, []int{block}, nil, others...)
		holdsFree(t, falling, nil, []api.Place{at(block, 3)}, others...)
		holdsFree(t, falling, others, nil, block)
		var l []api.Place
		for _, b := range others {
			l = append(l, at(b, block))
		}
		holdsFree(t, falling, nil, l, block)
	}
}

// P20.2 (Stuck): the places in bad blocks, in order, and as often as they come.
func TestStuck(t *testing.T) {
	l := []api.Place{at(5, 3), at(3, 5), at(-2, 7), at(3, 9), at(3, 5), at(5, 0)}
	holdsStuck(t, nil, nil)
	holdsStuck(t, nil, ends())
	holdsStuck(t, []api.Place{}, []int{3})
	holdsStuck(t, l, nil)
	holdsStuck(t, l, []int{})
	holdsStuck(t, l, []int{7, 9, 0, 2, 4, -3})
	holdsStuck(t, l, []int{3}, at(3, 5), at(3, 9), at(3, 5))
	holdsStuck(t, l, []int{5}, at(5, 3), at(5, 0))
	holdsStuck(t, l, []int{5, -2}, at(5, 3), at(-2, 7), at(5, 0))
	holdsStuck(t, l, []int{-2, 5, -2, 5}, at(5, 3), at(-2, 7), at(5, 0))
	holdsStuck(t, l, []int{5, -2, 3}, l...)
	for i, block := range ends() {
		var far []api.Place
		for _, b := range ends() {
			far = append(far, at(b, block))
		}
		holdsStuck(t, far, []int{block}, at(block, block))
		holdsStuck(t, far, slices.Delete(ends(), i, i+1), slices.Delete(slices.Clone(far), i, i+1)...)
	}
}

// P20.2: each list of up to four places in three blocks, each choice of bad blocks, each row of blocks.
func TestEachList(t *testing.T) {
	for _, row := range rows(3, 4) {
		var l []api.Place
		for i, block := range row {
			l = append(l, at(block, i%2))
		}
		holdsUsed(t, l, slices.Compact(slices.Sorted(slices.Values(row)))...)
		for block := range 4 {
			holdsCount(t, l, block, len(slices.DeleteFunc(slices.Clone(row), func(b int) bool { return b != block })))
		}
		for _, bad := range parts(4) {
			for _, some := range rows(4, 3) {
				holdsFree(t, some, bad, l, slices.DeleteFunc(slices.Clone(some), func(b int) bool {
					return slices.Contains(bad, b) || slices.Contains(row, b)
				})...)
			}
			holdsStuck(t, l, bad, slices.DeleteFunc(slices.Clone(l), func(p api.Place) bool {
				return !slices.Contains(bad, p.Block)
			})...)
		}
	}
}
