package geom_test

import (
	"math"
	"math/big"
	"testing"

	"wagtail/api"
	"wagtail/geom"
)

// needs looks at how many pages bytes need, and a bundle of them.
func needs(t *testing.T, n, want int) {
	t.Helper()
	if got := geom.Pages(n); got != want {
		t.Errorf("Pages(%d) = %d, not %d", n, got, want)
	}
	if got := geom.Cost(n); got != want+1 {
		t.Errorf("Cost(%d) = %d, not %d", n, got, want+1)
	}
}

// P13.3: bytes of none, of one, around one page and two, of the greatest bundle, and of the ends of int.
func TestPagesAndCost(t *testing.T) {
	for _, c := range [][2]int{
		{0, 1}, {1, 1}, {2, 1}, {100, 1}, {227, 1}, {228, 1}, {229, 2}, {256, 2}, {455, 2}, {456, 2}, {457, 3}, {2964, 13}, {2965, 14}, {3191, 14}, {3192, 14}, {3193, 15},
		{-1, 1}, {-2, 1}, {-227, 1}, {-228, 1}, {-229, 1}, {-3192, 1}, {-1 << 32, 1}, {math.MinInt + 1, 1}, {math.MinInt, 1},
		{math.MaxInt, 40453386126556035}, {math.MaxInt - 1, 40453386126556035}, {math.MaxInt - 54, 40453386126556035}, {math.MaxInt - 55, 40453386126556034}, {math.MaxInt - 56, 40453386126556034}, {1 << 32, 18837576}, {1 << 31, 9418788},
	} {
		needs(t, c[0], c[1])
	}
}

// P13.3: each number of bytes up to beyond MaxBundle, a page more whenever one is full.
func TestPagesByteByByte(t *testing.T) {
	pages, full := 1, 0
	needs(t, 0, 1)
	for n := 1; n <= 2*api.MaxBundle; n++ {
		if full == 228 {
			pages, full = pages+1, 0
		}
		full++
		needs(t, n, pages)
	}
}

// P13.3: each multiple of a page up to MaxBundle, and one beside it.
func TestPagesOfMultiples(t *testing.T) {
	for pages := 1; pages <= 14; pages++ {
		needs(t, pages*228-1, pages)
		needs(t, pages*228, pages)
		needs(t, pages*228+1, pages+1)
	}
}

// P13.3: numbers of the whole range, held against numbers without an end.
func TestPagesOfAllRanges(t *testing.T) {
	is := func(n int) {
		t.Helper()
		parts, rest := new(big.Int).QuoRem(big.NewInt(int64(max(n, 1))), big.NewInt(228), new(big.Int))
		needs(t, n, int(parts.Int64())+rest.Sign())
	}
	for _, n := range ints() {
		is(n)
	}
	for shift := range 63 {
		for beside := -3; beside <= 3; beside++ {
			is(1<<shift + beside)
		}
		full := math.MaxInt / 228 >> shift * 228
		for beside := -1; beside <= 1; beside++ {
			is(full + beside)
		}
	}
	for n := range 500 {
		is(math.MaxInt - n)
		is(math.MinInt + n)
	}
}

// P13.5: a bundle of MaxBundle bytes has 14 pages, and one byte more would have 15.
func TestPagesOfTheGreatestBundle(t *testing.T) {
	if got := geom.Pages(api.MaxBundle); got != 14 {
		t.Errorf("Pages(%d) = %d, not 14", api.MaxBundle, got)
	}
	if got := geom.Pages(api.MaxBundle + 1); got != 15 {
		t.Errorf("Pages(%d) = %d, not 15", api.MaxBundle+1, got)
	}
}
