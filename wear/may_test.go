package wear_test

import (
	"math"
	"testing"

	"wagtail/wear"
)

// P21.3: a block whose count is less than Least's and gap may be erased; at it, or above it, it may not.
func TestMayBelowLeastsAndGap(t *testing.T) {
	for gap := 1; gap < 9; gap++ {
		for low := range 5 {
			for _, at := range []int{0, 1, 2} {
				blocks, counts := []int{0, 1, 2, 3}, filled(4, 1000)
				counts[3], counts[at] = low, low+gap-1
				holdsMay(t, blocks, counts, at, gap, true)
				counts[at]++
				holdsMay(t, blocks, counts, at, gap, false)
				counts[at]++
				holdsMay(t, blocks, counts, at, gap, false)
				holdsMay(t, blocks, counts, 3, gap, true)
			}
		}
	}
}

// P21.3: a block that is not one of blocks may not be erased, whatever its count, and gap.
func TestMayBeOneOfBlocks(t *testing.T) {
	for _, gap := range ends() {
		for _, block := range ends() {
			holdsMay(t, nil, []int{3, 1, 1}, block, gap, false)
			holdsMay(t, []int{}, nil, block, gap, false)
			holdsMay(t, []int{7, 9}, []int{3, 1, 1}, block, gap, false)
			holdsMay(t, []int{7, block, 9}, nil, block, gap, true)
			holdsMay(t, []int{block}, []int{3, 1, 1}, block, gap, true)
			holdsMay(t, []int{block, block}, []int{3, 1, 1}, block, gap, true)
		}
		// Least is of blocks alone: another one's count tells nothing.
		holdsMay(t, []int{1, 2}, []int{0, 5, 5}, 1, gap, true)
		holdsMay(t, []int{1, 2}, []int{0, 5, 5}, 0, gap, false)
	}
	wide := []int{1, 2, 3}
	holdsMay(t, wide[:2], nil, 3, 5, false)
}

// P21.3: a gap below 1 is as 1: then only blocks that are worn least may be erased.
func TestMayOfAGapBelow1(t *testing.T) {
	for _, gap := range ends() {
		if gap > 1 {
			continue
		}
		for block, want := range []bool{false, true, false, true} {
			holdsMay(t, []int{3, 2, 1, 0}, []int{4, 2, 3, 2}, block, gap, want)
		}
	}
	for block, want := range []bool{false, true, true, true} {
		holdsMay(t, []int{3, 2, 1, 0}, []int{4, 2, 3, 2}, block, 2, want)
	}
}

// P21.3: the block that is worn least may always be erased, and with a gap as great as can be each one.
func TestLeastMayAlways(t *testing.T) {
	for seed := range 500 {
		x := dice(seed)
		blocks, counts := append(x.some(1+x.below(9), 9), x.far(x.below(5))...), append(x.some(x.below(9), 9), x.far(x.below(3))...)
		block, _ := wear.Least(blocks, counts)
		for _, gap := range ends() {
			holdsMay(t, blocks, counts, block, gap, true)
		}
		for _, block := range blocks {
			holdsMay(t, blocks, counts, block, math.MaxInt, wear.Of(counts, block) < math.MaxInt || wear.Gap(blocks, counts) < math.MaxInt)
		}
	}
}

// P21.3: nothing overflows, at the ends of counts and of gap.
func TestMayAtTheEnds(t *testing.T) {
	blocks := []int{0, 1}
	holdsMay(t, blocks, []int{math.MaxInt, math.MaxInt}, 0, math.MaxInt, true)
	holdsMay(t, blocks, []int{math.MaxInt, math.MaxInt}, 0, 1, true)
	holdsMay(t, blocks, []int{math.MaxInt, math.MaxInt - 1}, 0, 1, false)
	holdsMay(t, blocks, []int{math.MaxInt, math.MaxInt - 1}, 0, 2, true)
	holdsMay(t, blocks, []int{math.MaxInt, 0}, 0, math.MaxInt, false)
	holdsMay(t, blocks, []int{math.MaxInt - 1, 0}, 0, math.MaxInt, true)
	holdsMay(t, blocks, []int{math.MaxInt, 1}, 0, math.MaxInt, true)
	holdsMay(t, blocks, []int{math.MaxInt, math.MinInt}, 0, math.MinInt, false)
	holdsMay(t, blocks, []int{math.MinInt, 0}, 0, math.MinInt, true)
	for _, a := range ends() {
		for _, b := range ends() {
			for _, gap := range ends() {
				counts := []int{a, b}
				holdsMay(t, blocks, counts, 0, gap, may(blocks, counts, 0, gap))
			}
		}
	}
}

// P21.3: what is at the greatest count that Add tells may be erased as any other.
func TestMayAt65535(t *testing.T) {
	holdsMay(t, []int{0, 1}, []int{65535, 65535}, 0, 1, true)
	holdsMay(t, []int{0, 1}, []int{65535, 65534}, 0, 1, false)
	holdsMay(t, []int{0, 1}, []int{65536, 65530}, 0, 7, true)
	holdsMay(t, []int{0, 1}, []int{65536, 65530}, 0, 6, false)
}

// P21.3: every row of at most three blocks, and of at most three counts, each block, and gaps: what the chapter says of it.
func TestMayOfEveryRow(t *testing.T) {
	for _, blocks := range rows([]int{-1, 0, 1, 2}, 3) {
		for _, counts := range rows([]int{-1, 0, 1, 3}, 3) {
			for block := -2; block < 4; block++ {
				for gap := -1; gap < 5; gap++ {
					holdsMay(t, blocks, counts, block, gap, may(blocks, counts, block, gap))
				}
			}
		}
	}
}
