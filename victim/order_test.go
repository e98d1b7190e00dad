package victim_test

import (
	"math"
	"slices"
	"testing"

	"wagtail/api"
)

// P22.2 (Order): no blocks are no blocks, whatever places there are.
func TestOrderOfNoBlocks(t *testing.T) {
	for _, l := range [][]api.Place{nil, {}, in(0), in(ends()...)} {
		holdsOrder(t, nil, l)
		holdsOrder(t, []int{}, l)
		holdsOrder(t, []int{3, 0}[:0], l)
	}
}

// P22.2 (Order): one block stands alone, and the same one as often as it is handed in.
func TestOrderOfOneBlock(t *testing.T) {
	for _, block := range ends() {
		for many := range 4 {
			l := append(times(block, many), at(7, many))
			holdsOrder(t, []int{block}, l, block)
			holdsOrder(t, []int{block, block}, l, block, block)
		}
	}
	for _, blocks := range orders([]int{5, 3, 5, 4, 3}) {
		holdsOrder(t, blocks, nil, 3, 3, 4, 5, 5)
		holdsOrder(t, blocks, in(3, 4, 3), 5, 5, 4, 3, 3)
	}
}

// P22.2 (Order): blocks that keep fewer come first, be their numbers as they may, in whatever order they are handed in.
func TestOrderByWhatIsKept(t *testing.T) {
	l := slices.Concat(times(-2, 3), times(0, 1), times(3, 4), times(9, 2), times(1, 7))
	for _, blocks := range orders([]int{-2, 0, 3, 9, 5}) {
		holdsOrder(t, blocks, l, 5, 0, 9, -2, 3)
	}
	for _, blocks := range orders([]int{9, 3, 1}) {
		holdsOrder(t, blocks, l, 9, 3, 1)
	}
	// Ten places are more than nine, and no less than a hundred.
	l = slices.Concat(times(4, 9), times(3, 10), times(2, 100))
	holdsOrder(t, []int{2, 3, 4}, l, 4, 3, 2)
}

// P22.2 (Order): blocks that keep equally many stand by their numbers.
func TestOrderOfTheSame(t *testing.T) {
	for _, blocks := range orders([]int{-2, 0, 3, 10, 9}) {
		holdsOrder(t, blocks, nil, -2, 0, 3, 9, 10)
		holdsOrder(t, blocks, in(3, 0, 9, 10, -2), -2, 0, 3, 9, 10)
		holdsOrder(t, blocks, in(3, 9, 4), -2, 0, 10, 3, 9)
		holdsOrder(t, blocks, in(-2, 10, -2, 10, 0), 3, 9, 0, -2, 10)
	}
	falling := ends()
	slices.Reverse(falling)
	holdsOrder(t, falling, nil, ends()...)
	holdsOrder(t, falling, in(ends()...), ends()...)
	// All of a place each but one.
	for i, block := range ends() {
		others := slices.Delete(ends(), i, i+1)
		holdsOrder(t, falling, in(block), append(others, block)...)
		holdsOrder(t, falling, in(others...), append([]int{block}, others...)...)
	}
}

// P22.2 (Total): of no blocks nothing is gained, of one its Gain.
func TestTotalOfOneBlock(t *testing.T) {
	for _, pages := range ends() {
		for _, l := range [][]api.Place{nil, {}, in(0), in(ends()...)} {
			holdsTotal(t, nil, l, pages, 0)
			holdsTotal(t, []int{}, l, pages, 0)
			holdsTotal(t, []int{3, 0}[:0], l, pages, 0)
		}
		for _, block := range ends() {
			holdsTotal(t, []int{block}, in(7, 5), pages, max(pages, 0))
			holdsTotal(t, []int{block}, in(7, block, 5), pages, max(pages, 1)-1)
		}
	}
}

// P22.2 (Total): the sum of what is gained of several: those that gain nothing take nothing away, and one that is handed in twice is gained twice.
func TestTotalOfSeveral(t *testing.T) {
	l := slices.Concat(times(-2, 3), times(0, 1), times(3, 4), times(9, 2), times(1, 7))
	for _, blocks := range orders([]int{-2, 0, 3, 9, 5}) {
		for pages, want := range []int{0, 1, 3, 6, 10, 15, 20} {
			holdsTotal(t, blocks, l, pages, want)
		}
	}
	holdsTotal(t, []int{3, 1}, l, 4, 0)
	holdsTotal(t, []int{3, 1}, l, 5, 1)
	holdsTotal(t, []int{1, 0, 1}, l, 5, 4)
	holdsTotal(t, []int{0, 0}, l, 4, 6)
	holdsTotal(t, []int{0, 9, 0, 0}, l, 4, 11)
}

// P22.2 (Total): of no pages, and of fewer, nothing is gained; a sum that would be no int is the greatest one.
func TestTotalOfPagesAtTheEnds(t *testing.T) {
	for _, pages := range ends() {
		if pages < 1 {
			holdsTotal(t, []int{4, 6, 4, 9}, in(6, 4, 4), pages, 0)
			holdsTotal(t, []int{4, 6}, nil, pages, 0)
		}
	}
	holdsTotal(t, []int{4, 6}, nil, 1<<62-1, 1<<63-2)
	holdsTotal(t, []int{4, 6}, in(4), 1<<62, math.MaxInt)
	holdsTotal(t, []int{4, 6}, nil, 1<<62, math.MaxInt)
	holdsTotal(t, []int{4, 6}, nil, math.MaxInt, math.MaxInt)
	holdsTotal(t, []int{4, 6, 4, 9}, in(4, 9, 9), math.MaxInt, math.MaxInt)
	holdsTotal(t, []int{4, 4, 4, 4}, nil, 1<<62, math.MaxInt)
}
