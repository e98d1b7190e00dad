package wear_test

import (
	"math"
	"slices"
	"testing"

	"wagtail/wear"
)

// P21.2, the chapter's example: counts 3, 1, 1: Least of all three is 1.
func TestTheChaptersExample(t *testing.T) {
	holdsLeast(t, []int{0, 1, 2}, []int{3, 1, 1}, 1, true)
	holdsMost(t, []int{0, 1, 2}, []int{3, 1, 1}, 0, true)
	holdsGap(t, []int{0, 1, 2}, []int{3, 1, 1}, 2)
}

// P21.2: of no blocks there is none, whatever counts there are, and nothing is apart.
func TestNoBlocks(t *testing.T) {
	for _, blocks := range [][]int{nil, {}} {
		for _, counts := range [][]int{nil, {}, {5}, {5, 7}, {-1, 65535}, ends()} {
			holdsLeast(t, blocks, counts, 0, false)
			holdsMost(t, blocks, counts, 0, false)
			holdsGap(t, blocks, counts, 0)
		}
	}
}

// P21.2: one block is worn least, and most, whatever its number and its count, as often as it comes.
func TestOneBlock(t *testing.T) {
	for _, counts := range [][]int{nil, {5}, {5, 7, 9}, {-1, 1 << 40}} {
		for _, block := range ends() {
			for _, blocks := range [][]int{{block}, {block, block}, {block, block, block}} {
				holdsLeast(t, blocks, counts, block, true)
				holdsMost(t, blocks, counts, block, true)
				holdsGap(t, blocks, counts, 0)
			}
		}
	}
}

// P21.2: of some blocks with one count the least number, in whatever order they are handed in.
func TestOfTheSameOnesTheLeastNumber(t *testing.T) {
	for _, counts := range [][]int{{4, 4, 4, 4, 4}, {0, 0, 0, 0, 0}, nil, {-3, 0, -1, 0, -9}} {
		for _, blocks := range orders([]int{1, 2, 3, 4}) {
			holdsLeast(t, blocks, counts, 1, true)
			holdsMost(t, blocks, counts, 1, true)
			holdsGap(t, blocks, counts, 0)
		}
	}
	for _, blocks := range orders([]int{0, 1, 2, 3, 4, 5}) {
		counts := []int{9, 2, 5, 2, 9, 5}
		holdsLeast(t, blocks, counts, 1, true)
		holdsMost(t, blocks, counts, 0, true)
		holdsGap(t, blocks, counts, 7)
	}
}

// P21.2: counts are held against each other ahead of numbers: the least number is worn most, or least, or neither.
func TestCountsComeFirst(t *testing.T) {
	for _, blocks := range orders([]int{0, 1, 2, 3}) {
		holdsLeast(t, blocks, []int{4, 3, 2, 1}, 3, true)
		holdsMost(t, blocks, []int{4, 3, 2, 1}, 0, true)
		holdsLeast(t, blocks, []int{1, 2, 3, 4}, 0, true)
		holdsMost(t, blocks, []int{1, 2, 3, 4}, 3, true)
		holdsLeast(t, blocks, []int{2, 9, 0, 2}, 2, true)
		holdsMost(t, blocks, []int{2, 9, 0, 2}, 1, true)
	}
}

// P21.2: only the blocks that are handed in are looked at, not all that have a count.
func TestOfSomeBlocksAlone(t *testing.T) {
	counts := []int{0, 5, 9, 7, 1 << 50}
	holdsLeast(t, []int{3, 1, 2}, counts, 1, true)
	holdsMost(t, []int{3, 1, 2}, counts, 2, true)
	holdsGap(t, []int{3, 1, 2}, counts, 4)
	holdsLeast(t, []int{3, 2}, counts, 3, true)
	holdsGap(t, []int{3, 2}, counts, 2)
}

// P21.2: a block without a count has 0, a negative one among them, or one behind the last; of these the least number, too.
func TestBlocksWithoutACount(t *testing.T) {
	for _, blocks := range orders([]int{0, 1, 7, -2}) {
		holdsLeast(t, blocks, []int{3, 5}, -2, true)
		holdsMost(t, blocks, []int{3, 5}, 1, true)
		holdsGap(t, blocks, []int{3, 5}, 5)
		holdsLeast(t, blocks, nil, -2, true)
		holdsMost(t, blocks, nil, -2, true)
		holdsMost(t, blocks, []int{0, -5, 3}, -2, true)
	}
	for _, blocks := range orders([]int{0, 1, 7, math.MaxInt}) {
		holdsLeast(t, blocks, []int{3, 5}, 7, true)
		holdsLeast(t, blocks, []int{3, 0}, 1, true)
	}
	holdsLeast(t, ends(), []int{1}, math.MinInt, true)
	holdsMost(t, ends(), []int{1}, 0, true)
	holdsMost(t, ends(), []int{0, 0, 1}, 2, true)
	holdsMost(t, ends(), nil, math.MinInt, true)
}

// P21.2: counts below 0 are as 0, and are no further apart than that.
func TestLeastOfCountsBelow0(t *testing.T) {
	for _, n := range ends() {
		if n >= 0 {
			continue
		}
		holdsLeast(t, []int{2, 1, 0}, []int{0, n, n}, 0, true)
		holdsMost(t, []int{2, 1, 0}, []int{n, 0, n}, 0, true)
		holdsGap(t, []int{2, 1, 0}, []int{n, 0, n}, 0)
		holdsMost(t, []int{2, 1, 0}, []int{n, 0, 3}, 2, true)
		holdsGap(t, []int{2, 1, 0}, []int{n, 0, 3}, 3)
	}
}

// P21.2: how far counts at the types' ends are apart is told, and nothing overflows.
func TestGapAtTheEnds(t *testing.T) {
	holdsGap(t, []int{0, 1}, []int{math.MinInt, math.MaxInt}, math.MaxInt)
	holdsGap(t, []int{0, 1}, []int{math.MaxInt, math.MinInt}, math.MaxInt)
	holdsGap(t, []int{0, 1}, []int{1, math.MaxInt}, math.MaxInt-1)
	holdsGap(t, []int{0, 1}, []int{math.MaxInt, math.MaxInt}, 0)
	holdsGap(t, []int{0, 1}, []int{math.MinInt, math.MinInt}, 0)
	holdsGap(t, []int{0, -1}, []int{math.MaxInt}, math.MaxInt)
	holdsGap(t, []int{0, 1, 2}, []int{65535, 65536, 65534}, 2)
	for _, a := range ends() {
		for _, b := range ends() {
			holds(t, []int{1, 0}, []int{a, b})
			holds(t, []int{a, b}, []int{4, 5, 6})
		}
	}
}

// P21.2: every row of at most four blocks, and every row of at most three counts: what the chapter says of it.
func TestEveryRowOfBlocks(t *testing.T) {
	for _, blocks := range rows([]int{-1, 0, 1, 2, 3}, 4) {
		for _, counts := range rows([]int{-1, 0, 1, 2}, 3) {
			holds(t, blocks, counts)
		}
	}
}

// P21.2: rows of numbers of all kinds.
func TestRowsOfAllKinds(t *testing.T) {
	for seed := range 2000 {
		x := dice(seed)
		holds(t, x.some(x.below(20), 12), x.some(x.below(12), 5))
		holds(t, append(x.some(x.below(9), 9), x.far(x.below(9))...), x.far(x.below(12)))
	}
}

// P21.2: of a great many blocks, too.
func TestOfAGreatMany(t *testing.T) {
	x := dice(1)
	counts := x.some(200000, 1000)
	for i := range counts {
		counts[i] += 10
	}
	counts[150000], counts[170000] = 3, 3
	counts[140000], counts[160000] = 5000, 5000
	blocks := parts(len(counts))
	holdsLeast(t, blocks, counts, 150000, true)
	holdsMost(t, blocks, counts, 140000, true)
	holdsGap(t, blocks, counts, 4997)
	slices.Reverse(blocks)
	holdsLeast(t, blocks, counts, 150000, true)
	holdsMost(t, blocks, counts, 140000, true)
	if !wear.May(blocks, counts, 150000, 1) || wear.May(blocks, counts, 140000, 4997) || !wear.May(blocks, counts, 140000, 4998) {
		t.Error("May")
	}
}
