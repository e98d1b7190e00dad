package geom_test

import (
	"testing"

	"wagtail/api"
	"wagtail/geom"
)

// holds looks at how many logical pages a device has, and how many of them bundles may have.
func holds(t *testing.T, g api.Geom, bad []int, logical, budget int) {
	t.Helper()
	if got := geom.Logical(g, bad); got != logical {
		t.Errorf("Logical(%d, %d) = %d, not %d", g, bad, got, logical)
	}
	if got := geom.Budget(g, bad); got != budget {
		t.Errorf("Budget(%d, %d) = %d, not %d", g, bad, got, budget)
	}
}

// P13.2: the chapter's example, of no reserve and of the most, of all sizes, of 0, 1 and 2 pages, and where there would be fewer than none.
func TestLogicalAndBudget(t *testing.T) {
	for _, c := range []struct {
		g               api.Geom
		bad             []int
		logical, budget int
	}{
		{dev(16, 8, 2), nil, 64, 63}, {dev(16, 8, 2), []int{15}, 56, 55}, {dev(16, 8, 2), []int{2, 2, 0, 1, 16, -1}, 56, 55}, {dev(16, 8, 2), []int{9, 3, 5}, 40, 39},
		{dev(16, 8, 0), nil, 80, 79}, {dev(16, 8, 8), nil, 16, 15}, {dev(16, 8, 8), []int{4}, 8, 7}, {dev(16, 8, 8), []int{4, 5}, 0, 0}, {dev(16, 8, 8), []int{4, 5, 6}, 0, 0},
		{dev(12, 4, 0), nil, 16, 15}, {dev(8, 4, 0), nil, 0, 0}, {dev(8, 4, 8), nil, 0, 0}, {dev(8, 32, 8), nil, 0, 0}, {dev(34, 32, 0), nil, 944, 943}, {dev(34, 32, 8), nil, 688, 687}, {dev(34, 4, 8), nil, 72, 71},
		{dev(8, 15, 3), nil, 0, 0}, {dev(8, 16, 3), nil, 0, 0}, {dev(8, 17, 3), nil, 1, 0}, {dev(8, 18, 3), nil, 2, 1}, {dev(8, 17, 2), []int{7}, 1, 0}, {dev(8, 19, 2), []int{7, 7, 7}, 3, 2},
		{dev(8, 17, 4), nil, 0, 0}, {dev(8, 17, 5), nil, 0, 0}, {dev(8, 32, 0), []int{2, 3, 4, 5, 6, 7}, 0, 0}, {dev(34, 32, 0), upTo(dev(34, 0, 0), 32), 0, 0}, {dev(34, 32, 0), upTo(dev(34, 0, 0), 29), 16, 15}, {dev(34, 32, 0), upTo(dev(34, 0, 0), 30), 0, 0},
	} {
		holds(t, c.g, c.bad, c.logical, c.budget)
	}
}

// logicalOf is how many logical pages there are, counted block by block, and page by page.
func logicalOf(g api.Geom, good int) int {
	n := 0
	for range max(good-g.Reserve-2, 0) {
		n += g.Pages
	}
	for range 16 {
		n = max(n-1, 0)
	}
	return n
}

// P13.2: all sides that may be, with none, some and all of the data blocks bad.
func TestLogicalAndBudgetOfAll(t *testing.T) {
	for _, g := range sides() {
		for n := range g.Blocks - 1 {
			want := logicalOf(g, g.Blocks-2-n)
			holds(t, g, upTo(g, n), want, max(want-1, 0))
		}
	}
	for _, g := range few() {
		for _, bad := range lists(g) {
			want := logicalOf(g, count(g, bad, false))
			holds(t, g, bad, want, max(want-1, 0))
		}
	}
}

// P13.2: 0 of sides that may not be.
func TestLogicalAndBudgetOfWrongSides(t *testing.T) {
	for _, g := range wrongs() {
		for _, bad := range [][]int{nil, {}, {2}, {2, 3, 4, 5, 6, 7}, {0, 1}, {g.Blocks - 1}, {-1, g.Blocks}, ints()} {
			holds(t, g, bad, 0, 0)
		}
	}
}
