package geom_test

import (
	"math"
	"testing"

	"wagtail/api"
	"wagtail/geom"
)

// isAt looks at a page's number.
func isAt(t *testing.T, g api.Geom, p api.Place, want int) {
	t.Helper()
	if got := geom.Place(g, p); got != want {
		t.Errorf("Place(%d, %d) = %d, not %d", g, p, got, want)
	}
}

// isPage looks at the page of a number.
func isPage(t *testing.T, g api.Geom, i int, want api.Place, e api.Errno) {
	t.Helper()
	if got, f := geom.At(g, i); got != want || f != e {
		t.Errorf("At(%d, %d) = %d, %d, not %d, %d", g, i, got, f, want, e)
	}
}

// P13.4: a few pages, and their numbers.
func TestPlaceAndAt(t *testing.T) {
	for _, c := range []struct {
		g api.Geom
		p api.Place
		i int
	}{
		{dev(16, 8, 2), api.Place{}, 0}, {dev(16, 8, 2), at(0, 7), 7}, {dev(16, 8, 2), at(1, 0), 8}, {dev(16, 8, 2), at(3, 5), 29}, {dev(16, 8, 2), at(15, 7), 127},
		{dev(34, 32, 8), at(33, 31), 1087}, {dev(8, 4, 0), at(7, 3), 31}, {dev(9, 5, 0), at(4, 4), 24},
	} {
		isAt(t, c.g, c.p, c.i)
		isPage(t, c.g, c.i, c.p, api.OK)
	}
}

// P13.4, P13.5: each page of each device, counted on block by block, and page by page; there and back.
func TestPlaceAndAtOfAllPages(t *testing.T) {
	for _, g := range sides() {
		if g.Reserve%4 != 0 {
			continue
		}
		n := 0
		for block := range g.Blocks {
			for page := range g.Pages {
				p := at(block, page)
				isAt(t, g, p, n)
				isPage(t, g, n, p, api.OK)
				isPage(t, g, geom.Place(g, p), p, api.OK)
				n++
			}
		}
		for i := range n {
			p, e := geom.At(g, i)
			if e != api.OK {
				t.Errorf("At(%d, %d): %d", g, i, e)
			}
			isAt(t, g, p, i)
		}
		isPage(t, g, n, api.Place{}, api.ErrRange)
		isPage(t, g, -1, api.Place{}, api.ErrRange)
	}
}

// P13.4: pages that are none: beyond a block, beyond all blocks, below 0, and such as would be a number if sums left the type.
func TestPlaceOfNone(t *testing.T) {
	for _, g := range few() {
		numbers := append(ints(), g.Blocks-1, g.Blocks, g.Blocks+1, g.Pages-1, g.Pages, g.Pages+1, -g.Pages, -g.Blocks, math.MaxInt/g.Pages, math.MaxInt/g.Pages+1, math.MinInt/g.Pages, math.MaxInt-g.Pages)
		for _, block := range numbers {
			for _, page := range numbers {
				want := -1
				if 0 <= block && block < g.Blocks && 0 <= page && page < g.Pages {
					want = block*g.Pages + page
				}
				isAt(t, g, at(block, page), want)
			}
		}
		isAt(t, g, at(0, g.Pages), -1)
		isAt(t, g, at(1, -1), -1)
		isAt(t, g, at(1, g.Pages), -1)
		isAt(t, g, at(g.Blocks, 0), -1)
		isAt(t, g, at(-1, g.Pages), -1)
	}
	for _, block := range []int{1 << 62, 1<<62 + 1, -1 << 62, math.MinInt, math.MinInt + 1} {
		isAt(t, dev(16, 4, 0), at(block, 1), -1)
	}
}

// P13.4: numbers that no page has: below 0, the one behind the last, and to the ends of int.
func TestAtOfNone(t *testing.T) {
	for _, g := range few() {
		all := g.Blocks * g.Pages
		for _, i := range append(ints(), all, all+1, all+g.Pages, -all, 1<<32+all-1, 1088, 1089) {
			if i < 0 || i >= all {
				isPage(t, g, i, api.Place{}, api.ErrRange)
			}
		}
		isPage(t, g, 0, api.Place{}, api.OK)
		isPage(t, g, all-1, at(g.Blocks-1, g.Pages-1), api.OK)
	}
}

// P13.4: -1, and ErrRange, of sides that may not be, whatever is asked for.
func TestPlaceAndAtOfWrongSides(t *testing.T) {
	for _, g := range wrongs() {
		for _, n := range []int{math.MinInt, -1, 0, 1, 7, 31, g.Blocks - 1, g.Blocks, g.Pages - 1, g.Pages, math.MaxInt} {
			isPage(t, g, n, api.Place{}, api.ErrRange)
			isAt(t, g, at(n, 0), -1)
			isAt(t, g, at(0, n), -1)
			isAt(t, g, at(n, n), -1)
		}
	}
}
