package pool_test

import (
	"math"
	"slices"
	"testing"

	"wagtail/api"
	"wagtail/pool"
)

// holdsAt holds that this is the open block's next page.
func holdsAt(t *testing.T, p *pool.Pool, want api.Place) {
	t.Helper()
	if got, is := p.At(); got != want || !is {
		t.Fatalf("At is %d, %t, not %d, of %v", got, is, want, told(p))
	}
}

// holdsShut holds that there is no open block.
func holdsShut(t *testing.T, p *pool.Pool) {
	t.Helper()
	if got, is := p.At(); got != (api.Place{}) || is {
		t.Fatalf("At is %d, %t, of %v", got, is, told(p))
	}
}

// holdsClose holds what Close answers, and that there is no open block behind it.
func holdsClose(t *testing.T, p *pool.Pool, want int, is bool) {
	t.Helper()
	before := told(p)
	if got, was := p.Close(); got != want || was != is {
		t.Fatalf("Close = %d, %t, not %d, %t, of %v", got, was, want, is, before)
	}
	holdsShut(t, p)
}

// holdsRelease holds what Release answers.
func holdsRelease(t *testing.T, p *pool.Pool, block int, want bool) {
	t.Helper()
	before := told(p)
	if got := p.Release(block); got != want {
		t.Fatalf("Release(%d) = %t, of %v", block, got, before)
	}
}

// P23.3 (At, Step): behind Begin the next page is 0, behind each Step the next one; behind the last one no block is open, and it is not free.
func TestStepToTheLastPage(t *testing.T) {
	for pages := -2; pages < 40; pages++ {
		for _, block := range []int{math.MinInt, -1, 0, 2, 1024, math.MaxInt} {
			p := pool.New([]int{block, 7}, []int{5, 5, 5}, pages, 3)
			holdsBegin(t, p, block, true, true)
			counts, most := p.Counts(), max(pages, 1)
			for page := range most {
				holdsAt(t, p, at(block, page))
				if got := p.Room(); got != most-page+most {
					t.Fatalf("Room is %d behind %d of %d pages", got, page, most)
				}
				p.Step()
			}
			for range 3 {
				holdsTold(t, p, state{room: most, free: []int{7}, counts: counts, opening: 4, best: 7, has: true}, pages, block)
				holdsShut(t, p)
				p.Step()
			}
		}
	}
}

// P23.3 (Step): without an open block nothing happens: of a new pool, behind a Begin that was not ok, behind one that answered false, behind Close and Release.
func TestStepWithoutAnOpenBlock(t *testing.T) {
	g := given{[]int{5, 2, 3}, []int{9, 9, 4, 7}, 2, 6}
	for _, l := range [][]deed{{}, {{'f', 2}}, {{'b', 4}}, {{'b', 2}, {'c', 0}}, {{'b', 2}, {'s', 0}, {'c', 0}}, {{'b', 2}, {'s', 0}, {'s', 0}}, {{'r', 8}}, {{'c', 0}}} {
		p := holdsDeeds(t, g, l...)
		before := told(p)
		for range 5 {
			p.Step()
			holdsTold(t, p, before, l)
		}
		holdsBegin(t, p, 5, true, true)
		holdsAt(t, p, at(5, 0))
	}
}

// P23.3 (At, Step): of as many pages as an int holds just as many may be used as are asked for.
func TestStepOfAGreatManyPages(t *testing.T) {
	for _, pages := range []int{1 << 16, 1 << 32, math.MaxInt - 1, math.MaxInt} {
		p := pool.New([]int{2}, nil, pages, 0)
		holdsBegin(t, p, 2, true, true)
		for page := range 1<<16 - 1 {
			if next, is := p.At(); !is || next != at(2, page) || p.Room() != pages-page {
				t.Fatalf("of %d pages, behind %d: %d, %t, Room %d", pages, page, next, is, p.Room())
			}
			p.Step()
		}
		holdsAt(t, p, at(2, 1<<16-1))
		p.Step()
		if pages == 1<<16 {
			holdsShut(t, p)
		} else {
			holdsAt(t, p, at(2, 1<<16))
			holdsClose(t, p, 2, true)
		}
	}
}

// P23.3 (Close): the open block is told, on whatever page it is, and is not open any more; it is not free, and what room it had left is gone, and all else is as it was.
func TestCloseOfAnOpenBlock(t *testing.T) {
	for _, block := range []int{math.MinInt, -1, 0, 2, 34, math.MaxInt} {
		for used := range 4 {
			p := pool.New([]int{block, 7, 9}, []int{5, 5, 5}, 4, 3)
			holdsBegin(t, p, block, true, true)
			for range used {
				p.Step()
			}
			counts := p.Counts()
			holdsClose(t, p, block, true)
			for range 3 {
				holdsTold(t, p, state{room: 8, free: []int{7, 9}, counts: counts, opening: 4, best: 7, has: true}, block, used)
				holdsClose(t, p, 0, false)
			}
			holdsBegin(t, p, block, true, false)
			holdsBegin(t, p, 9, true, true)
			holdsAt(t, p, at(9, 0))
			holdsClose(t, p, 9, true)
		}
	}
}

// P23.3 (Close): without an open block nothing is told, and nothing happens: of a new pool, behind a Begin that was not ok, behind one that answered false, behind the last page, and behind Close.
func TestCloseWithoutAnOpenBlock(t *testing.T) {
	g := given{[]int{5, 2, 3}, []int{9, 9, 4, 7}, 2, 6}
	for _, l := range [][]deed{{}, {{'f', 2}}, {{'b', 4}}, {{'b', 2}, {'c', 0}}, {{'b', 2}, {'s', 0}, {'s', 0}}, {{'b', 2}, {'s', 0}, {'s', 0}, {'r', 2}}, {{'s', 0}}} {
		p := holdsDeeds(t, g, l...)
		before := told(p)
		for range 3 {
			holdsClose(t, p, 0, false)
			holdsTold(t, p, before, l)
		}
	}
}

// P23.3 (Release): a block that was closed, or used to its last page, or begun and not ok, is free again, and once; its count stays as it is, and so does the opening.
func TestReleaseOfABlockThatWasFree(t *testing.T) {
	g := given{[]int{5, 2, 3}, []int{9, 9, 4, 7}, 2, 6}
	for _, c := range []struct {
		l       []deed
		opening uint64
	}{
		{[]deed{{'f', 3}}, 6},
		{[]deed{{'b', 3}, {'c', 0}}, 7},
		{[]deed{{'b', 3}, {'s', 0}, {'c', 0}}, 7},
		{[]deed{{'b', 3}, {'s', 0}, {'s', 0}}, 7},
	} {
		p := holdsDeeds(t, g, c.l...)
		holdsRelease(t, p, 3, true)
		for range 3 {
			holdsTold(t, p, state{room: 6, free: []int{2, 3, 5}, counts: []int{9, 9, 4, 8}, opening: c.opening, best: 5, has: true}, c.l)
			holdsRelease(t, p, 3, false)
		}
		holdsBegin(t, p, 3, true, true)
		holdsTold(t, p, state{room: 6, free: []int{2, 5}, counts: []int{9, 9, 4, 9}, opening: c.opening + 1, best: 5, has: true, at: at(3, 0), open: true}, c.l)
	}
}

// P23.3 (Release): a block that New was never told of is free, whatever its number from 0 on, in its place among the others, with a block open or without.
func TestReleaseOfABlockThatIsNew(t *testing.T) {
	for _, open := range []bool{true, false} {
		for _, block := range append(ends(), 3, 4, 5, 6, 7, 8, 10, 11) {
			if block < 0 {
				continue
			}
			p := pool.New([]int{9, -2, 4, 6, 12}, []int{1}, 3, 0)
			holdsBegin(t, p, 6, open, true)
			before := told(p)
			want := block != 4 && block != 9 && block != 12 && (block != 6 || !open)
			holdsRelease(t, p, block, want)
			if want {
				before.free = slices.Sorted(slices.Values(append(before.free, block)))
				before.room += 3
				w := paper{free: map[int]bool{}, counts: before.counts}
				for _, one := range before.free {
					w.free[one] = true
				}
				before.best, before.has = w.best()
			}
			holdsTold(t, p, before, block)
			holdsRelease(t, p, block, false)
			holdsTold(t, p, before, block)
		}
	}
}

// P23.3 (Release): each free block, and each one below 0, free or not, is not released, and nothing has changed.
func TestReleaseOfABlockThatIsFreeOrBelow0(t *testing.T) {
	for _, free := range [][]int{nil, {0}, {3, 2}, {-1, -2, 4}, ends()} {
		for _, ok := range []bool{true, false} {
			p := pool.New(append([]int{1, -5}, free...), nil, 3, 0)
			holdsBegin(t, p, -5, ok, true)
			before := told(p)
			for _, block := range append(ends(), -5, -3) {
				if block < 0 || slices.Contains(before.free, block) {
					holdsRelease(t, p, block, false)
					holdsTold(t, p, before, block)
				}
			}
			p.Close()
			holdsRelease(t, p, -5, false)
		}
	}
}

// P23.3 (Release): the open block is not released, on whatever page it is, and nothing has changed; a block of another number is.
func TestReleaseOfTheOpenBlock(t *testing.T) {
	for _, block := range []int{0, 1, 33, 1024, math.MaxInt} {
		p := pool.New([]int{block, 7}, nil, 3, 0)
		holdsBegin(t, p, block, true, true)
		for range 3 {
			before := told(p)
			holdsRelease(t, p, block, false)
			holdsTold(t, p, before, block)
			p.Step()
		}
		holdsRelease(t, p, block, true)
		holdsRelease(t, p, block, false)
	}
	// The zero place of a pool without an open block is no open block 0.
	p := pool.New([]int{0, 7}, nil, 3, 0)
	holdsBegin(t, p, 0, false, true)
	holdsRelease(t, p, 0, true)
	p = pool.New(nil, nil, 3, 0)
	holdsRelease(t, p, 0, true)
	holdsTold(t, p, state{room: 3, free: []int{0}, counts: []int{}, best: 0, has: true})
}
