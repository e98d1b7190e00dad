package geom_test

import (
	"math"
	"math/big"
	"slices"
	"testing"

	"wagtail/api"
	"wagtail/geom"
)

// checks looks at whether sides may be.
func checks(t *testing.T, g api.Geom) {
	t.Helper()
	want := api.ErrRange
	if mayBe(g) {
		want = api.OK
	}
	if got := geom.Check(g); got != want {
		t.Errorf("Check(%d) = %d, not %d", g, got, want)
	}
}

// P13.1: each side at its bounds, one below and one above them, alone.
func TestCheck(t *testing.T) {
	for _, c := range []struct {
		g api.Geom
		e api.Errno
	}{
		{dev(16, 8, 2), api.OK},
		{dev(8, 8, 2), api.OK}, {dev(7, 8, 2), api.ErrRange}, {dev(34, 8, 2), api.OK}, {dev(35, 8, 2), api.ErrRange},
		{dev(16, 4, 2), api.OK}, {dev(16, 3, 2), api.ErrRange}, {dev(16, 32, 2), api.OK}, {dev(16, 33, 2), api.ErrRange},
		{dev(16, 8, 0), api.OK}, {dev(16, 8, -1), api.ErrRange}, {dev(16, 8, 8), api.OK}, {dev(16, 8, 9), api.ErrRange},
		{api.Geom{}, api.ErrRange}, {dev(8, 4, 0), api.OK}, {dev(34, 32, 8), api.OK}, {dev(4, 8, 34), api.ErrRange},
		{dev(math.MaxInt, math.MaxInt, math.MaxInt), api.ErrRange}, {dev(math.MinInt, math.MinInt, math.MinInt), api.ErrRange},
	} {
		if got := geom.Check(c.g); got != c.e {
			t.Errorf("Check(%d) = %d, not %d", c.g, got, c.e)
		}
	}
}

// P13.1: sides around all bounds, and at the ends of int, alone and several at once.
func TestCheckOfAll(t *testing.T) {
	for blocks := -2; blocks < 40; blocks++ {
		for pages := -2; pages < 38; pages++ {
			for reserve := -2; reserve < 12; reserve++ {
				checks(t, dev(blocks, pages, reserve))
			}
		}
	}
	for _, blocks := range ints() {
		for _, pages := range ints() {
			for _, reserve := range ints() {
				checks(t, dev(blocks, pages, reserve))
			}
		}
	}
}

// counts looks at how many data blocks are bad, and good.
func counts(t *testing.T, g api.Geom, bad []int, wantBad, wantGood int) {
	t.Helper()
	if got := geom.Bad(g, bad); got != wantBad {
		t.Errorf("Bad(%d, %d) = %d, not %d", g, bad, got, wantBad)
	}
	if got := geom.Good(g, bad); got != wantGood {
		t.Errorf("Good(%d, %d) = %d, not %d", g, bad, got, wantGood)
	}
}

// P13.1: data blocks that are bad, and good: each of them once, and no other number.
func TestBadAndGood(t *testing.T) {
	g := dev(8, 4, 8)
	for _, c := range []struct {
		bad       []int
		many, not int
	}{
		{nil, 0, 6}, {[]int{}, 0, 6}, {[]int{2}, 1, 5}, {[]int{7}, 1, 5}, {[]int{2, 7}, 2, 4}, {[]int{7, 2}, 2, 4}, {[]int{0}, 0, 6}, {[]int{1}, 0, 6}, {[]int{0, 1}, 0, 6}, {[]int{8}, 0, 6}, {[]int{9}, 0, 6}, {[]int{-1}, 0, 6}, {[]int{-2, -7}, 0, 6},
		{[]int{3, 3}, 1, 5}, {[]int{3, 4, 3}, 2, 4}, {[]int{3, 3, 3, 3, 3, 3, 3, 3, 3, 3}, 1, 5}, {[]int{2, 3, 4, 5, 6, 7}, 6, 0}, {[]int{7, 5, 3, 6, 4, 2}, 6, 0}, {[]int{7, 6, 5, 4, 3, 2, 1, 0, -1, 8}, 6, 0}, {[]int{2, 3, 4, 5, 6, 7, 2, 3, 4, 5, 6, 7}, 6, 0}, {[]int{3, 4, 5, 6, 7}, 5, 1},
		{[]int{math.MinInt, math.MaxInt, 1<<32 + 3, -1<<32 + 3, 256 + 3, 64 + 3, 64 - 3}, 0, 6}, {[]int{math.MinInt, 3, math.MaxInt}, 1, 5},
	} {
		counts(t, g, c.bad, c.many, c.not)
	}
}

// P13.1: the same blocks, bad and good, whichever device it is, and whatever numbers are handed in.
func TestBadAndGoodOfAll(t *testing.T) {
	for _, g := range few() {
		for _, bad := range lists(g) {
			counts(t, g, bad, count(g, bad, true), count(g, bad, false))
		}
	}
	for _, g := range sides() {
		for n := range g.Blocks - 1 {
			bad := upTo(g, n)
			counts(t, g, bad, n, g.Blocks-2-n)
			counts(t, g, append(bad, 1, 0, g.Blocks), n, g.Blocks-2-n)
		}
	}
}

// P13.1: all sets of a small device's blocks, and of numbers beside them.
func TestBadAndGoodOfSets(t *testing.T) {
	g := dev(8, 4, 0)
	for set := range 1 << 12 {
		var bad []int
		for i := range 12 {
			if set>>i&1 == 1 {
				bad = append(bad, i-2)
			}
		}
		want, not := count(g, bad, true), count(g, bad, false)
		counts(t, g, bad, want, not)
		slices.Reverse(bad)
		counts(t, g, append(bad, bad...), want, not)
	}
}

// P13.1: both 0 of sides that may not be.
func TestBadAndGoodOfWrongSides(t *testing.T) {
	for _, g := range wrongs() {
		for _, bad := range [][]int{nil, {}, {2}, {2, 3, 4, 5, 6, 7}, {0, 1}, {g.Blocks - 1}, {-1, g.Blocks}, ints()} {
			counts(t, g, bad, 0, 0)
		}
	}
}

// spares looks at how many blocks may fail still.
func spares(t *testing.T, g api.Geom, failed, want int) {
	t.Helper()
	if got := geom.Spare(g, failed); got != want {
		t.Errorf("Spare(%d, %d) = %d, not %d", g, failed, got, want)
	}
}

// P13.1: Reserve less failed, of none, some, all and more; below 0 as of 0.
func TestSpare(t *testing.T) {
	for reserve := range 9 {
		g := dev(16, 8, reserve)
		for failed := range reserve {
			spares(t, g, failed, reserve-failed)
		}
		for _, failed := range []int{reserve, reserve + 1, reserve + 2, 34, 1 << 32, math.MaxInt - 1, math.MaxInt} {
			spares(t, g, failed, 0)
		}
		for _, failed := range []int{0, -1, -2, -8, -1 << 32, math.MinInt + 1, math.MinInt} {
			spares(t, g, failed, reserve)
		}
	}
}

// spareOf is Reserve less failed by numbers without an end.
func spareOf(reserve, failed int) int {
	rest := new(big.Int).Sub(big.NewInt(int64(reserve)), big.NewInt(int64(max(failed, 0))))
	if rest.Sign() < 0 {
		return 0
	}
	return int(rest.Int64())
}

// P13.1: Spare asks not whether sides may be: Reserve less failed, of every Reserve there is, and at least 0.
func TestSpareOfWrongSides(t *testing.T) {
	for _, c := range [][3]int{{9, 0, 9}, {9, 3, 6}, {9, -3, 9}, {9, 9, 0}, {-1, 0, 0}, {-1, -5, 0}, {math.MaxInt, math.MinInt, math.MaxInt}, {math.MaxInt, 1, math.MaxInt - 1}, {math.MaxInt, math.MaxInt, 0}, {math.MaxInt, math.MaxInt - 1, 1}, {math.MinInt, math.MaxInt, 0}, {math.MinInt, math.MinInt, 0}, {math.MinInt, 1, 0}, {math.MinInt, 0, 0}} {
		spares(t, dev(16, 8, c[0]), c[1], c[2])
	}
	for _, reserve := range ints() {
		for _, failed := range append(ints(), reserve) {
			for _, g := range []api.Geom{dev(16, 8, reserve), dev(0, 0, reserve), dev(7, 8, reserve), dev(16, 33, reserve), dev(math.MaxInt, math.MinInt, reserve)} {
				spares(t, g, failed, spareOf(reserve, failed))
			}
		}
	}
}
