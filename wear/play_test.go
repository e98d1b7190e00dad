package wear_test

import (
	"math"
	"slices"
	"testing"

	"wagtail/wear"
)

// P21.4: one block that is asked again and again is erased as long as it may be; else the one that is worn least.
func TestOneBlockAskedAgainAndAgain(t *testing.T) {
	zeros := filled(20, 0)
	for i, want := range [][]int{{0, 0, 0}, {1, 0, 0}, {2, 0, 0}, {2, 1, 0}, {2, 1, 1}, {3, 1, 1}, {3, 2, 1}, {3, 2, 2}, {4, 2, 2}} {
		holdsPlay(t, 3, 2, zeros[:i], want...)
	}
	for _, gap := range []int{math.MinInt, -1, 0, 1} {
		for i, want := range [][]int{{0, 0, 0}, {1, 0, 0}, {1, 1, 0}, {1, 1, 1}, {2, 1, 1}, {2, 2, 1}} {
			holdsPlay(t, 3, gap, zeros[:i], want...)
		}
	}
	holdsPlay(t, 3, 3, zeros[:6], 4, 1, 1)
	holdsPlay(t, 3, math.MaxInt, zeros, 20, 0, 0)
	holdsPlay(t, 3, 20, zeros, 20, 0, 0)
	holdsPlay(t, 3, 19, zeros, 19, 1, 0)
	holdsPlay(t, 3, 2, []int{2, 2, 2, 2, 2}, 1, 1, 3)
	holdsPlay(t, 1, 0, zeros, 20)
}

// P21.4: of every number of blocks, each block asked again and again, with each gap: what the chapter says of it.
func TestEachBlockWithEachGap(t *testing.T) {
	for _, many := range []int{1, 2, 3, 5, 34, 64} {
		for _, gap := range append(ends(), 3, 4, 5, 6, 7) {
			for _, block := range []int{0, many / 2, many - 1} {
				asked := filled(3*many+9, block)
				holdsPlay(t, many, gap, asked, played(many, gap, asked)...)
			}
		}
	}
}

// P21.4: all blocks are never erased at first: with nothing asked each one's count is 0.
func TestNothingAsked(t *testing.T) {
	for many := 1; many <= 64; many++ {
		for _, gap := range ends() {
			holdsPlay(t, many, gap, nil, filled(many, 0)...)
			holdsPlay(t, many, gap, []int{}, filled(many, 0)...)
		}
	}
}

// P21.4: from 1 to 64 blocks are played; of fewer, or more, nothing is told.
func TestFrom1To64(t *testing.T) {
	for _, many := range append(ends(), -3, 3) {
		for _, gap := range ends() {
			for _, asked := range [][]int{nil, {0}, {0, 1, 2, -1, 64}, ends()} {
				got := wear.Play(many, gap, asked)
				if many < 1 || many > 64 {
					if len(got) != 0 {
						t.Fatalf("%d blocks: %d", many, got)
					}
				} else if len(got) != many || sum(got) != len(asked) {
					t.Fatalf("%d blocks, %d asked: %d", many, len(asked), got)
				}
			}
		}
	}
}

// P21.4: a block that is asked is its number modulo many, from 0 on.
func TestModuloMany(t *testing.T) {
	for _, many := range []int{1, 2, 3, 7, 63, 64} {
		for n := -3 * many; n < 3*many; n++ {
			want := filled(many, 0)
			want[modulo(n, many)] = 1
			holdsPlay(t, many, 5, []int{n}, want...)
		}
		for _, n := range ends() {
			want := filled(many, 0)
			want[modulo(n, many)] = 2
			holdsPlay(t, many, 5, []int{n, n}, want...)
		}
	}
	holdsPlay(t, 3, 5, []int{-1}, 0, 0, 1)
	holdsPlay(t, 3, 5, []int{-2, 4}, 0, 2, 0)
	holdsPlay(t, 3, 5, []int{-3, 3, 0, 6}, 4, 0, 0)
	holdsPlay(t, 10, 5, []int{math.MinInt, math.MaxInt}, 0, 0, 1, 0, 0, 0, 0, 1, 0, 0)
}

// P21.4: what is asked is erased one by one, in the order in which it is asked.
func TestOneByOne(t *testing.T) {
	holdsPlay(t, 2, 1, []int{0, 1}, 1, 1)
	holdsPlay(t, 2, 1, []int{1, 1}, 1, 1)
	holdsPlay(t, 3, 1, []int{2, 2, 1}, 1, 1, 1)
	holdsPlay(t, 3, 2, []int{0, 0, 0, 1, 1}, 2, 2, 1)
	holdsPlay(t, 3, 2, []int{1, 1, 0, 0, 0}, 2, 2, 1)
	// Block 1 is erased instead of block 0, and is worn as much as that then.
	holdsPlay(t, 2, 1, []int{0, 0, 0}, 2, 1)
	holdsPlay(t, 2, 1, []int{0, 0, 1}, 1, 2)
}

// P21.4: every row of at most seven that are asked of three blocks, and of six of four, with gaps: what the chapter says of it.
func TestEveryRowAsked(t *testing.T) {
	for _, asked := range rows([]int{0, 1, 2}, 7) {
		for gap := 0; gap < 4; gap++ {
			holdsPlay(t, 3, gap, asked, played(3, gap, asked)...)
		}
	}
	for _, asked := range rows([]int{-1, 0, 2, 5}, 6) {
		for gap := 1; gap < 4; gap++ {
			holdsPlay(t, 4, gap, asked, played(4, gap, asked)...)
		}
	}
}

// P21.4, P21.5: rows of all kinds: what the chapter says of it; the counts are never more than gap, at least 1, apart, and their sum is how many were asked.
func TestEven(t *testing.T) {
	for seed := range 1500 {
		x := dice(seed)
		many, gap := 1+x.below(64), x.below(12)-2
		asked := append(x.some(x.below(200), 1+x.below(100)), x.far(x.below(30))...)
		if x.below(4) == 0 {
			gap = x.end()
		}
		for upTo := 0; upTo <= len(asked); upTo += 1 + x.below(50) {
			got := wear.Play(many, gap, asked[:upTo])
			if want := played(many, gap, asked[:upTo]); !slices.Equal(got, want) {
				t.Fatalf("seed %d: %d, not %d", seed, got, want)
			}
			if len(got) != many || slices.Max(got)-slices.Min(got) > max(gap, 1) || sum(got) != upTo {
				t.Fatalf("seed %d, gap %d, %d asked: %d", seed, gap, upTo, got)
			}
		}
	}
}

// P21.5: what is told behind Play is told by Gap, too, at each step.
func TestGapBehindPlay(t *testing.T) {
	for gap := -2; gap < 7; gap++ {
		for _, many := range []int{1, 2, 3, 64} {
			for n := range 5 * many {
				asked := filled(n, n%3)
				if far := wear.Gap(parts(many), wear.Play(many, gap, asked)); far > max(gap, 1) {
					t.Fatalf("%d blocks, gap %d, %d asked: %d apart", many, gap, n, far)
				}
			}
		}
	}
}

// P21.5: the gap is reached, where it can be: it is no less than what is asked for.
func TestGapIsReached(t *testing.T) {
	for gap := 1; gap < 9; gap++ {
		for many := 2; many <= 64; many++ {
			if far := wear.Gap(parts(many), wear.Play(many, gap, filled(gap, many-1))); far != gap {
				t.Fatalf("%d blocks, gap %d: %d apart", many, gap, far)
			}
		}
	}
}

// P21.1, P21.4, P21.5: an erase is counted as Add counts it, up to 65535, and no further; of a great many that are asked, too.
func TestPlayUpTo65535(t *testing.T) {
	holdsPlay(t, 1, 1, filled(65534, 0), 65534)
	holdsPlay(t, 1, 1, filled(65535, 0), 65535)
	holdsPlay(t, 1, 1, filled(65536, 0), 65535)
	holdsPlay(t, 1, 1, filled(70000, 0), 65535)
	holdsPlay(t, 2, math.MaxInt, filled(70000, 1), 0, 65535)
	// Block 0 is erased once instead of block 1, whose erases are counted no more: it may be erased for good then.
	holdsPlay(t, 2, 65535, filled(70000, 1), 1, 65535)
	holdsPlay(t, 2, 1, filled(131069, 1), 65534, 65535)
	holdsPlay(t, 2, 1, filled(131070, 1), 65535, 65535)
	holdsPlay(t, 2, 1, filled(140000, 1), 65535, 65535)
	holdsPlay(t, 64, 3, filled(64000, 63), append(filled(61, 1000), 999, 999, 1002)...)
}
