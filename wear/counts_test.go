package wear_test

import (
	"math"
	"slices"
	"testing"

	"wagtail/wear"
)

// P21.1: a block's count is the number at its place, from the first to the last one.
func TestOfIsTheNumberAtItsPlace(t *testing.T) {
	counts := []int{3, 0, 65534, 65535, 65536, 1 << 40, math.MaxInt}
	for block, want := range counts {
		if got := wear.Of(counts, block); got != want {
			t.Errorf("block %d: %d, not %d", block, got, want)
		}
	}
}

// P21.1: of a block without a place the count is 0: of the one behind the last, of one far behind, of a negative one, at the types' ends.
func TestOfNoPlaceIs0(t *testing.T) {
	for _, counts := range [][]int{nil, {}, {5}, {5, 6, 7}, filled(1100, 9)} {
		for _, block := range append(ends(), len(counts), len(counts)+1) {
			if block >= 0 && block < len(counts) {
				continue
			}
			if got := wear.Of(counts, block); got != 0 {
				t.Errorf("block %d of %d: %d", block, len(counts), got)
			}
		}
	}
	// What stands in a list's spare room is no count.
	wide := []int{5, 6, 7}
	if got := wear.Of(wide[:1], 1); got != 0 {
		t.Errorf("behind the last: %d", got)
	}
}

// P21.1, the words: a count below 0 counts as 0.
func TestCountsBelow0CountAs0(t *testing.T) {
	for _, n := range ends() {
		counts := []int{4, n, 4}
		if got := wear.Of(counts, 1); got != max(n, 0) {
			t.Errorf("count %d: %d", n, got)
		}
		if got := wear.Of(counts, 0) + wear.Of(counts, 2); got != 8 {
			t.Errorf("beside count %d: %d", n, got)
		}
	}
}

// P21.1: a block has 1 more, all others what they had; there are as many as before, if the block stands among them.
func TestAddCountsOneMore(t *testing.T) {
	holdsAdd(t, []int{3, 1, 4}, 0, 4, 1, 4)
	holdsAdd(t, []int{3, 1, 4}, 1, 3, 2, 4)
	holdsAdd(t, []int{3, 1, 4}, 2, 3, 1, 5)
	holdsAdd(t, []int{0}, 0, 1)
}

// P21.1: of a block that does not stand among them there are as many as up to its place, those between being 0.
func TestAddReachesTheBlock(t *testing.T) {
	holdsAdd(t, nil, 0, 1)
	holdsAdd(t, []int{}, 0, 1)
	holdsAdd(t, nil, 2, 0, 0, 1)
	holdsAdd(t, []int{7}, 1, 7, 1)
	holdsAdd(t, []int{7, 8}, 4, 7, 8, 0, 0, 1)
	for _, many := range []int{0, 1, 2, 34, 1022, 1023} {
		got := wear.Add(filled(many, 5), 1023)
		want := append(append(filled(many, 5), filled(1023-many, 0)...), 1)
		if !slices.Equal(got, want) {
			t.Errorf("%d counts, block 1023: %d counts, the last %d", many, len(got), got[len(got)-1])
		}
	}
	// What stands in a list's spare room is no count.
	wide := []int{7, 8, 9, 9, 9}
	holdsAdd(t, wide[:2], 3, 7, 8, 0, 1)
}

// P21.1: blocks are counted from 0 to 1023; of another one there are as many as before, and none has 1 more, even if it stands among them.
func TestAddOfOtherBlocks(t *testing.T) {
	holdsAdd(t, filled(1024, 2), 0, append([]int{3}, filled(1023, 2)...)...)
	holdsAdd(t, filled(1024, 2), 1023, append(filled(1023, 2), 3)...)
	holdsAdd(t, filled(1100, 2), 1023, slices.Concat(filled(1023, 2), []int{3}, filled(76, 2))...)
	for _, many := range []int{0, 1, 3, 1023, 1024, 1025, 1100, 70000} {
		counts := filled(many, 2)
		for _, block := range append(ends(), -3, 1026, 1099) {
			if block < 0 || block > 1023 {
				holdsAdd(t, counts, block, counts...)
			}
		}
	}
}

// P21.1: a count goes on as long as it is below 65535; one that is above it stays as it is.
func TestAddUpTo65535(t *testing.T) {
	for _, n := range []int{65533, 65534} {
		holdsAdd(t, []int{1, n, 2}, 1, 1, n+1, 2)
	}
	for _, n := range []int{65535, 65536, 65537, 1 << 31, 1 << 32, math.MaxInt - 1, math.MaxInt} {
		holdsAdd(t, []int{1, n, 2}, 1, 1, n, 2)
		holdsAdd(t, []int{1, n, 2}, 0, 2, n, 2)
		holdsAdd(t, []int{1, n, 2}, -1, 1, n, 2)
		holdsAdd(t, []int{n}, 1, n, 1)
	}
}

// P21.1: what is answered are counts as they count: one below 0 is 0, whether it is the block's or another one's, and whether anything is counted or not.
func TestAddTellsCountsAsTheyCount(t *testing.T) {
	for _, n := range ends() {
		if n >= 0 {
			continue
		}
		holdsAdd(t, []int{4, n, 4}, 1, 4, 1, 4)
		holdsAdd(t, []int{4, n, 4}, 0, 5, 0, 4)
		holdsAdd(t, []int{n, n}, 3, 0, 0, 0, 1)
		holdsAdd(t, []int{n, 4, n}, -1, 0, 4, 0)
		holdsAdd(t, []int{n, 4, n}, 1024, 0, 4, 0)
	}
}

// P21.1: every row of at most four counts, and each block: what the chapter says of it.
func TestEveryRowOfCounts(t *testing.T) {
	blocks := []int{math.MinInt, -1, 0, 1, 2, 3, 4, 5, 1024, math.MaxInt}
	for _, counts := range rows([]int{-1, 0, 1, 65534, 65535, 65536}, 4) {
		for _, block := range blocks {
			if got := wear.Of(counts, block); got != count(counts, block) {
				t.Fatalf("Of(%d, %d) = %d", counts, block, got)
			}
			holdsAdd(t, counts, block, added(counts, block)...)
		}
	}
}

// P21.1: rows of numbers of all kinds, and counts that are counted again and again.
func TestAddAgainAndAgain(t *testing.T) {
	for seed := range 200 {
		x := dice(seed)
		counts := x.far(x.below(9))
		want := counts
		for range 30 {
			block := x.below(12)
			if x.below(5) == 0 {
				block = x.end()
			}
			counts, want = wear.Add(counts, block), added(want, block)
			if !slices.Equal(counts, want) {
				t.Fatalf("seed %d, block %d: %d, not %d", seed, block, counts, want)
			}
		}
	}
}
