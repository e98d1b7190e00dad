package victim_test

import (
	"fmt"
	"math"
	"math/big"
	"slices"
	"testing"

	"wagtail/api"
	"wagtail/victim"
)

// ends are numbers at the edges of bytes and words, of a device's blocks and pages, and of int itself, rising.
func ends() []int {
	return []int{math.MinInt, math.MinInt + 1, -1 << 62, -1 << 32, -1 << 31, -256, -2, -1, 0, 1, 2, 31, 32, 33, 34, 255, 256, 1<<31 - 1, 1 << 31, 1 << 32, 1 << 62, math.MaxInt - 1, math.MaxInt}
}

// at is a page of a block.
func at(block, page int) api.Place {
	return api.Place{Block: block, Page: page}
}

// in are places in some blocks, one in each, on the pages 0, 1, ..
func in(blocks ...int) []api.Place {
	var l []api.Place
	for page, block := range blocks {
		l = append(l, at(block, page))
	}
	return l
}

// times are so many places in a block.
func times(block, many int) []api.Place {
	return in(slices.Repeat([]int{block}, many)...)
}

// keeps is how many of the places are in a block.
func keeps(l []api.Place, block int) int {
	many := 0
	for i := range l {
		if l[i].Block == block {
			many++
		}
	}
	return many
}

// first tells whether a block comes first of two, as the chapter says: it keeps fewer, or as many, and its number is less.
func first(l []api.Place, a, b int) bool {
	if keeps(l, a) == keeps(l, b) {
		return a < b
	}
	return keeps(l, a) < keeps(l, b)
}

// picked is the block that is picked, and whether there is one, as the chapter says.
func picked(blocks []int, l []api.Place, pages int) (int, bool) {
	for _, block := range blocks {
		if !slices.ContainsFunc(blocks, func(other int) bool { return first(l, other, block) }) {
			return block, keeps(l, block) < pages
		}
	}
	return 0, false
}

// gained is how many pages are gained of a block, as the chapter says: a number without an end.
func gained(l []api.Place, block, pages int) *big.Int {
	n := new(big.Int).Sub(big.NewInt(int64(pages)), big.NewInt(int64(keeps(l, block))))
	if n.Sign() < 0 {
		return new(big.Int)
	}
	return n
}

// ordered are blocks in order, as the chapter says: one by one the first of those that are left.
func ordered(blocks []int, l []api.Place) []int {
	var told []int
	left := slices.Clone(blocks)
	for len(left) > 0 {
		next := 0
		for i := range left {
			if first(l, left[i], left[next]) {
				next = i
			}
		}
		told = append(told, left[next])
		left = slices.Delete(left, next, next+1)
	}
	return told
}

// summed is how many pages are gained of all blocks, as the chapter says: the greatest int, if that would be more.
func summed(blocks []int, l []api.Place, pages int) int {
	sum := new(big.Int)
	for _, block := range blocks {
		sum.Add(sum, gained(l, block, pages))
	}
	if !sum.IsInt64() {
		return math.MaxInt
	}
	return int(sum.Int64())
}

// brief tells the first ones of a list, and how many there are: some tests have a great many.
func brief[E any](l []E) string {
	return fmt.Sprintf("%v of %d", l[:min(len(l), 40)], len(l))
}

// holdsPick holds that this block is picked.
func holdsPick(t *testing.T, blocks []int, l []api.Place, pages, want int) {
	t.Helper()
	if got, is := victim.Pick(blocks, l, pages); got != want || !is {
		t.Fatalf("Pick(%s, %s, %d) = %d, %t, not %d", brief(blocks), brief(l), pages, got, is, want)
	}
}

// holdsNone holds that no block is picked.
func holdsNone(t *testing.T, blocks []int, l []api.Place, pages int) {
	t.Helper()
	if got, is := victim.Pick(blocks, l, pages); got != 0 || is {
		t.Fatalf("Pick(%s, %s, %d) = %d, %t, not 0, false", brief(blocks), brief(l), pages, got, is)
	}
}

// holdsGain holds that so many pages are gained of a block.
func holdsGain(t *testing.T, l []api.Place, block, pages, want int) {
	t.Helper()
	if got := victim.Gain(l, block, pages); got != want {
		t.Fatalf("Gain(%s, %d, %d) = %d, not %d", brief(l), block, pages, got, want)
	}
}

// holdsOrder holds that blocks stand in this order.
func holdsOrder(t *testing.T, blocks []int, l []api.Place, want ...int) {
	t.Helper()
	if got := victim.Order(blocks, l); !slices.Equal(got, want) {
		t.Fatalf("Order(%s, %s) = %s, not %s", brief(blocks), brief(l), brief(got), brief(want))
	}
}

// holdsTotal holds that so many pages are gained of all blocks.
func holdsTotal(t *testing.T, blocks []int, l []api.Place, pages, want int) {
	t.Helper()
	if got := victim.Total(blocks, l, pages); got != want {
		t.Fatalf("Total(%s, %s, %d) = %d, not %d", brief(blocks), brief(l), pages, got, want)
	}
}

// holds holds what is told of blocks, and of the first and the last of them, against what the chapter says of it.
func holds(t *testing.T, blocks []int, l []api.Place, pages int) {
	t.Helper()
	if block, is := picked(blocks, l, pages); is {
		holdsPick(t, blocks, l, pages, block)
	} else {
		holdsNone(t, blocks, l, pages)
	}
	for _, block := range blocks {
		holdsGain(t, l, block, pages, int(gained(l, block, pages).Int64()))
	}
	holdsOrder(t, blocks, l, ordered(blocks, l)...)
	holdsTotal(t, blocks, l, pages, summed(blocks, l, pages))
	follows(t, blocks, l, pages)
}

// follows holds that no block gains more than the one that is picked, which gains something, and comes first; and that none does, if none is picked.
func follows(t *testing.T, blocks []int, l []api.Place, pages int) {
	t.Helper()
	most := 0
	block, is := victim.Pick(blocks, l, pages)
	if is {
		most = victim.Gain(l, block, pages)
	}
	if is && (most < 1 || victim.Order(blocks, l)[0] != block) {
		t.Fatalf("Pick(%s, %s, %d) = %d gains %d, of %s", brief(blocks), brief(l), pages, block, most, brief(victim.Order(blocks, l)))
	}
	for _, other := range blocks {
		if got := victim.Gain(l, other, pages); got > most {
			t.Fatalf("Pick(%s, %s, %d) = %d, %t: block %d gains %d, not %d", brief(blocks), brief(l), pages, block, is, other, got, most)
		}
	}
}

// rows are all rows of at most many of some numbers.
func rows(numbers []int, many int) [][]int {
	all := [][]int{nil}
	for from := 0; many > 0; many-- {
		to := len(all)
		for _, l := range all[from:to] {
			for _, n := range numbers {
				all = append(all, append(slices.Clone(l), n))
			}
		}
		from = to
	}
	return all
}

// orders are all rows in which some elements can stand.
func orders[E any](l []E) [][]E {
	if len(l) == 0 {
		return [][]E{nil}
	}
	var all [][]E
	for _, rest := range orders(l[1:]) {
		for i := range len(rest) + 1 {
			all = append(all, slices.Insert(slices.Clone(rest), i, l[0]))
		}
	}
	return all
}

// dice are numbers from a rule, others of each seed.
type dice uint32

// below is the next number, from 0 on, below n.
func (x *dice) below(n int) int {
	*x = *x*1664525 + 1013904223
	return int(*x>>8) % n
}

// end is one of ends.
func (x *dice) end() int {
	return ends()[x.below(len(ends()))]
}

// blocks are some numbers from -1 on, below n - 1.
func (x *dice) blocks(many, n int) []int {
	var l []int
	for range many {
		l = append(l, x.below(n)-1)
	}
	return l
}

// places are some places in such blocks.
func (x *dice) places(many, n int) []api.Place {
	var l []api.Place
	for range many {
		l = append(l, at(x.below(n)-1, x.below(4)))
	}
	return l
}

// far are numbers at the ends of their type.
func (x *dice) far(many int) []int {
	var l []int
	for range many {
		l = append(l, x.end())
	}
	return l
}

// shuffle puts a list's elements in another order.
func shuffle[E any](x *dice, l []E) {
	for range 3 * len(l) {
		i, k := x.below(len(l)), x.below(len(l))
		l[i], l[k] = l[k], l[i]
	}
}
