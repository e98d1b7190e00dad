package place_test

import (
	"math"
	"slices"
	"testing"

	"wagtail/api"
	"wagtail/place"
)

// ends are numbers at the edges of bytes and words, and of int itself, rising.
func ends() []int {
	return []int{math.MinInt, math.MinInt + 1, -1 << 62, -1 << 32, -1 << 31, -256, -2, -1, 0, 1, 2, 255, 256, 1<<31 - 1, 1 << 31, 1 << 32, 1 << 62, math.MaxInt - 1, math.MaxInt}
}

// at is a page of a block.
func at(block, page int) api.Place {
	return api.Place{Block: block, Page: page}
}

// in is the version of a logical page that has a copy in each of some blocks, on the page of its own number.
func in(lpn int, blocks ...int) api.Copies {
	c := api.Copies{Lpn: lpn, Kind: api.KData}
	for _, block := range blocks {
		c.At = append(c.At, at(block, lpn))
	}
	return c
}

// set are versions of the logical pages 0, 1, .., by the blocks that have copies of each.
func set(blocks ...[]int) []api.Copies {
	var v []api.Copies
	for lpn, l := range blocks {
		v = append(v, in(lpn, l...))
	}
	return v
}

// blocks are the blocks of some places, in order.
func blocks(l []api.Place) []int {
	var told []int
	for _, p := range l {
		told = append(told, p.Block)
	}
	return told
}

// placed are the versions that have a place, as the chapter says.
func placed(v []api.Copies) []api.Copies {
	return slices.DeleteFunc(slices.Clone(v), func(c api.Copies) bool { return len(c.At) == 0 })
}

// newest is the newest choice, as the chapter says.
func newest(v []api.Copies) []api.Place {
	var l []api.Place
	for _, c := range placed(v) {
		l = append(l, c.At[0])
	}
	return l
}

// used tells whether a choice uses a block, as the chapter says.
func used(l []api.Place, block int) bool {
	return slices.Contains(blocks(l), block)
}

// others are the copies that a version has in other used blocks that are not bad, as the chapter says.
func others(c api.Copies, l []api.Place, bad []int, block int) []api.Place {
	return slices.DeleteFunc(slices.Clone(c.At), func(p api.Place) bool {
		return p.Block == block || !used(l, p.Block) || slices.Contains(bad, p.Block)
	})
}

// can tells whether a block of a choice can be freed, as the chapter says.
func can(v []api.Copies, l []api.Place, bad []int, block int) bool {
	for i, c := range placed(v) {
		if l[i].Block == block && len(others(c, l, bad, block)) == 0 {
			return false
		}
	}
	return used(l, block) && !slices.Contains(bad, block)
}

// least is the least block of a choice that can be freed, and whether there is one, as the chapter says.
func least(v []api.Copies, l []api.Place, bad []int) (int, bool) {
	told := slices.DeleteFunc(blocks(l), func(block int) bool { return !can(v, l, bad, block) })
	if len(told) == 0 {
		return 0, false
	}
	return slices.Min(told), true
}

// chosen are the places that are chosen, as the chapter says: all is looked at anew behind each block that is freed.
func chosen(v []api.Copies, bad []int) []api.Place {
	l := newest(v)
	for {
		block, is := least(v, l, bad)
		if !is {
			return l
		}
		was := slices.Clone(l)
		for i, c := range placed(v) {
			if was[i].Block == block {
				l[i] = others(c, was, bad, block)[0]
			}
		}
	}
}

// holdsBlocks holds that of versions the copies in these blocks are chosen.
func holdsBlocks(t *testing.T, v []api.Copies, bad []int, want ...int) {
	t.Helper()
	if got := blocks(place.Choose(v, bad)); !slices.Equal(got, want) {
		t.Fatalf("Choose(%v, %d): blocks %d, not %d", v, bad, got, want)
	}
}

// holdsPlaces holds that of versions these places are chosen.
func holdsPlaces(t *testing.T, v []api.Copies, bad []int, want ...api.Place) {
	t.Helper()
	if got := place.Choose(v, bad); !slices.Equal(got, want) {
		t.Fatalf("Choose(%v, %d) = %v, not %v", v, bad, got, want)
	}
}

// holds holds what is chosen of versions against what the chapter says of it, and of what follows.
func holds(t *testing.T, v []api.Copies, bad []int) {
	t.Helper()
	want := chosen(v, bad)
	holdsPlaces(t, v, bad, want...)
	follows(t, v, bad, place.Choose(v, bad))
}

// follows holds that a choice is as it always is: of copies alone, in no block that the newest choice does not use, and with none that can be freed.
func follows(t *testing.T, v []api.Copies, bad []int, l []api.Place) {
	t.Helper()
	some := placed(v)
	if len(l) != len(some) {
		t.Fatalf("%d places of %v", len(l), v)
	}
	for i, c := range some {
		if !slices.Contains(c.At, l[i]) {
			t.Fatalf("%v is no copy of %v", l[i], c)
		}
		if !used(newest(v), l[i].Block) {
			t.Fatalf("%v: block %d is not used by the newest choice of %v", l, l[i].Block, v)
		}
	}
	if block, is := least(v, l, bad); is {
		t.Fatalf("%v, of %v, bad %d: block %d can be freed", l, v, bad, block)
	}
}

// rows are all rows of at most many numbers below n.
func rows(n, many int) [][]int {
	all := [][]int{nil}
	for first := 0; many > 0; many-- {
		last := len(all)
		for _, l := range all[first:last] {
			for k := range n {
				all = append(all, append(slices.Clone(l), k))
			}
		}
		first = last
	}
	return all
}

// parts are all choices out of the numbers below n, in falling order.
func parts(n int) [][]int {
	var all [][]int
	for marks := range 1 << n {
		var l []int
		for k := n - 1; k >= 0; k-- {
			if marks>>k&1 == 1 {
				l = append(l, k)
			}
		}
		all = append(all, l)
	}
	return all
}

// orders are all rows in which some elements can stand.
func orders[E any](l []E) [][]E {
	if len(l) == 0 {
		return [][]E{nil}
	}
	var all [][]E
	for _, rest := range orders(l[1:]) {
		for i := range len(rest) + 1 {
			all = append(all, slices.Insert(slices.Clone(rest), i, l[0]))
		}
	}
	return all
}

// dice are numbers from a rule, others of each seed.
type dice uint32

// below is the next number, from 0 on, below n.
func (x *dice) below(n int) int {
	*x = *x*1664525 + 1013904223
	return int(*x>>8) % n
}

// versions are some versions, with some copies each, in blocks below n.
func (x *dice) versions(many, copies, n int) []api.Copies {
	var v []api.Copies
	for range many {
		c := api.Copies{Lpn: x.below(9), Kind: x.below(5)}
		for range x.below(copies + 1) {
			c.At = append(c.At, at(x.below(n)-1, x.below(4)))
		}
		v = append(v, c)
	}
	return v
}

// far are some versions, of numbers at the ends of their types.
func (x *dice) far(many int) []api.Copies {
	end := func() int { return ends()[x.below(len(ends()))] }
	var v []api.Copies
	for range many {
		c := api.Copies{Lpn: end(), Kind: end()}
		for range x.below(5) {
			c.At = append(c.At, at(end(), end()))
		}
		v = append(v, c)
	}
	return v
}

// blocks are some blocks below n, in any order.
func (x *dice) blocks(many, n int) []int {
	var l []int
	for range many {
		l = append(l, x.below(n)-1)
	}
	return l
}

// places are some places in blocks below n.
func (x *dice) places(many, n int) []api.Place {
	var l []api.Place
	for range many {
		l = append(l, at(x.below(n)-1, x.below(3)))
	}
	return l
}
