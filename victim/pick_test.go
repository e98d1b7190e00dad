package victim_test

import (
	"math"
	"slices"
	"testing"

	"wagtail/api"
)

// P22.1 (Pick): of no blocks none is picked, whatever places there are, and however many pages.
func TestPickOfNoBlocks(t *testing.T) {
	for _, l := range [][]api.Place{nil, {}, in(0), in(3, 3, -1), in(ends()...)} {
		for _, pages := range ends() {
			holdsNone(t, nil, l, pages)
			holdsNone(t, []int{}, l, pages)
			// What stands in a list's spare room is no block.
			holdsNone(t, []int{3, 0}[:0], l, pages)
		}
	}
}

// P22.1 (Pick): one block is picked, if it keeps fewer than pages: one less, but not just as many, nor one more; however often it is handed in.
func TestPickOfOneBlock(t *testing.T) {
	for _, block := range ends() {
		for many := range 5 {
			l := append(times(block, many), at(7, many), at(5, 1))
			for _, blocks := range [][]int{{block}, {block, block}, {block, block, block}} {
				holdsNone(t, blocks, l, many-1)
				holdsNone(t, blocks, l, many)
				holdsPick(t, blocks, l, many+1, block)
				holdsPick(t, blocks, l, many+2, block)
			}
		}
	}
}

// P22.1 (Pick), the chapter's example: blocks 2 (3 places) and 3 (1 place).
func TestTheExample(t *testing.T) {
	for _, l := range orders([]api.Place{at(2, 0), at(3, 0), at(2, 1), at(2, 2)}) {
		for _, blocks := range orders([]int{2, 3}) {
			for _, pages := range []int{2, 3, 4, 32, math.MaxInt} {
				holdsPick(t, blocks, l, pages, 3)
			}
			holdsNone(t, blocks, l, 1)
			holdsNone(t, blocks, l, 0)
			holdsOrder(t, blocks, l, 3, 2)
			holdsTotal(t, blocks, l, 4, 4)
		}
		holdsGain(t, l, 2, 4, 1)
		holdsGain(t, l, 3, 4, 3)
	}
}

// P22.1 (Pick): the block with the fewest places is picked, in whatever order the blocks, and the places, are handed in: be its number the least, the greatest, or another.
func TestPickOfTheFewest(t *testing.T) {
	for _, kept := range [][]int{{0, 1, 2, 3}, {3, 2, 1, 0}, {2, 0, 3, 1}, {2, 3, 1, 4}, {1, 2, 2, 2}, {2, 2, 1, 2}} {
		least := slices.Min(kept)
		blocks := []int{-4, 0, 5, 9}
		var l []api.Place
		for i, block := range blocks {
			l = append(l, times(block, kept[i])...)
		}
		want := blocks[slices.Index(kept, least)]
		for _, row := range orders(blocks) {
			for seed := range 5 {
				x := dice(seed)
				shuffle(&x, l)
				holdsPick(t, row, l, 5, want)
				holdsPick(t, row, l, least+1, want)
				holdsPick(t, append(row, row...), l, 5, want)
				holdsNone(t, row, l, least)
				holdsNone(t, row, l, least-1)
			}
		}
	}
}

// P22.1 (Pick): of several that keep equally few the least number is picked, in whatever order they are handed in; a block of a number that is less still, but keeps more, is not.
func TestPickOfTheSame(t *testing.T) {
	l := slices.Concat(times(1, 2), times(-3, 3), times(4, 1), times(6, 1), times(8, 1))
	for _, blocks := range orders([]int{8, 1, 4, -3, 6}) {
		holdsPick(t, blocks, l, 4, 4)
		holdsPick(t, blocks, l, 2, 4)
		holdsNone(t, blocks, l, 1)
	}
	for _, blocks := range orders([]int{8, 1, 6}) {
		holdsPick(t, blocks, l, 4, 6)
	}
	for i, a := range ends() {
		for _, b := range ends()[i:] {
			holdsPick(t, []int{a, b}, nil, 1, a)
			holdsPick(t, []int{b, a}, nil, 1, a)
			holdsPick(t, []int{b, a}, in(a, b), 3, a)
			if a < b {
				holdsPick(t, []int{a, b}, in(a, b, a), 2, b)
				holdsPick(t, []int{b, a}, in(a, b, a), 2, b)
			}
		}
	}
}

// P22.1 (Pick): of no places, or of places in none of the blocks, all keep none, and the least number is picked; a place's page tells nothing.
func TestPickOfBlocksThatKeepNone(t *testing.T) {
	for _, blocks := range orders([]int{4, 2, -1, 7}) {
		for _, l := range [][]api.Place{nil, {}, {at(3, 4), at(0, 2), at(3, -1), at(8, 7)}} {
			holdsPick(t, blocks, l, 1, -1)
			holdsPick(t, blocks, l, 32, -1)
			holdsNone(t, blocks, l, 0)
		}
	}
	for _, end := range ends() {
		holdsPick(t, []int{end}, nil, 1, end)
		holdsPick(t, []int{50, end}, []api.Place{at(50, end), at(51, end)}, 1, end)
	}
}

// P22.1 (Pick): places in one block alone, in all of them, in others, too: what is not among the blocks is not picked, though it keep none, or fewer.
func TestPickOfBlocksAlone(t *testing.T) {
	holdsPick(t, []int{4, 6}, times(4, 3), 5, 6)
	holdsPick(t, []int{4, 6}, times(6, 3), 5, 4)
	holdsPick(t, []int{4, 6}, slices.Concat(times(6, 3), times(4, 2)), 5, 4)
	holdsPick(t, []int{4, 6}, slices.Concat(times(6, 3), times(4, 4), times(5, 1), times(2, 9)), 5, 6)
	holdsNone(t, []int{4, 6}, slices.Concat(times(6, 3), times(4, 4), times(5, 1)), 3)
	holdsNone(t, []int{4, 6}, slices.Concat(times(6, 3), times(4, 4)), 2)
}

// P22.1 (Pick, Gain): a place that comes twice counts twice, and two places of one page number in different blocks count once for each block.
func TestPlacesThatComeTwice(t *testing.T) {
	l := []api.Place{at(2, 5), at(3, 1), at(2, 5), at(3, 5), at(3, 5), at(4, 5), at(4, 6)}
	holdsPick(t, []int{3, 2}, l, 4, 2)
	holdsPick(t, []int{4, 3, 2}, l, 3, 2)
	holdsNone(t, []int{4, 3, 2}, l, 2)
	for block, want := range map[int]int{2: 2, 3: 1, 4: 2, 5: 4, 1: 4} {
		holdsGain(t, l, block, 4, want)
	}
	holdsOrder(t, []int{4, 3, 2}, l, 2, 4, 3)
	holdsTotal(t, []int{4, 3, 2}, l, 4, 5)
}

// P22.1 (Pick): where all keep fewer than pages, some do, one does, none does.
func TestPickByPages(t *testing.T) {
	blocks := []int{9, 3, 5}
	l := slices.Concat(times(9, 2), times(3, 4), times(5, 3))
	for pages, want := range map[int]int{6: 9, 5: 9, 4: 9, 3: 9, math.MaxInt: 9} {
		holdsPick(t, blocks, l, pages, want)
	}
	for _, pages := range []int{2, 1, 0, -1, math.MinInt} {
		holdsNone(t, blocks, l, pages)
	}
	// Just as many, one less and one more beside each other.
	holdsPick(t, []int{3, 5, 9}, l, 3, 9)
	holdsPick(t, []int{3, 5}, l, 4, 5)
	holdsNone(t, []int{3, 5}, l, 3)
}

// P22.1 (Pick): pages at the ends of their type: of none, and of fewer, nothing is picked, not even a block that keeps none.
func TestPickOfPagesAtTheEnds(t *testing.T) {
	for _, pages := range ends() {
		for _, blocks := range [][]int{{6, 4}, {4, 6}, {4, 6, 4}} {
			if pages < 1 {
				holdsNone(t, blocks, nil, pages)
				holdsNone(t, blocks, in(6, 4, 4), pages)
				holdsNone(t, blocks, in(6), pages)
				continue
			}
			holdsPick(t, blocks, nil, pages, 4)
			holdsPick(t, blocks, in(4), pages, 6)
			if pages > 1 {
				holdsPick(t, blocks, in(6, 4, 4), pages, 6)
			} else {
				holdsNone(t, blocks, in(6, 4, 4), pages)
			}
		}
	}
}
