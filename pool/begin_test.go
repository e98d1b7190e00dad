package pool_test

import (
	"math"
	"slices"
	"testing"

	"wagtail/api"
	"wagtail/pool"
)

// holdsBest holds that of a pool's free blocks this one is worn least.
func holdsBest(t *testing.T, p *pool.Pool, want int, is bool) {
	t.Helper()
	if got, has := p.Best(); got != want || has != is {
		t.Fatalf("Best is %d, %t, not %d, %t, of %v", got, has, want, is, told(p))
	}
}

// holdsBegin holds what Begin answers.
func holdsBegin(t *testing.T, p *pool.Pool, block int, ok, want bool) {
	t.Helper()
	before := told(p)
	if got := p.Begin(block, ok); got != want {
		t.Fatalf("Begin(%d, %t) = %t, of %v", block, ok, got, before)
	}
}

// P23.2 (Best): of no free blocks there is none, be they all begun, or never there.
func TestBestOfNoFreeBlock(t *testing.T) {
	for _, counts := range [][]int{nil, {0}, {5, 1}, ends()} {
		holdsBest(t, pool.New(nil, counts, 4, 1), 0, false)
		p := pool.New([]int{1, 5}, counts, 4, 1)
		holdsBegin(t, p, 5, false, true)
		holdsBest(t, p, 1, true)
		holdsBegin(t, p, 1, true, true)
		holdsBest(t, p, 0, false)
		p.Close()
		holdsBest(t, p, 0, false)
	}
}

// P23.2 (Best): one free block is it, whatever its number and its count.
func TestBestOfOneBlock(t *testing.T) {
	for _, block := range ends() {
		for _, counts := range [][]int{nil, {3, 3}, {65535, 65535, 65535}, ends()} {
			holdsBest(t, pool.New([]int{block}, counts, 4, 1), block, true)
			holdsBest(t, pool.New([]int{block, block}, counts, 4, 1), block, true)
		}
	}
}

// P23.2 (Best): the free block with the least count is it, in whatever order they were handed in; of several that are worn alike the least number.
func TestBestIsWornLeast(t *testing.T) {
	for _, free := range orders([]int{1, 2, 4, 5}) {
		for _, c := range []struct {
			counts []int
			want   int
		}{
			{nil, 1},
			{[]int{0, 3, 3, 0, 3, 3}, 1},
			{[]int{0, 3, 2, 0, 3, 4}, 2},
			{[]int{0, 3, 2, 0, 1, 4}, 4},
			{[]int{0, 3, 2, 0, 1, 0}, 5},
			{[]int{0, 3, 2, 0, 1}, 5},
			{[]int{9, 3, 2}, 4},
			{[]int{9, 0, 2, 9, 0, 0}, 1},
			{[]int{9, 5, 2, 9, 2, 2}, 2},
			{[]int{9, 5, 7, 9, 3, 3}, 4},
			{[]int{-9, 65535, 65534, -9, 65535, 65535}, 2},
			{[]int{-9, 65536, 65535, -9, math.MaxInt, math.MaxInt - 1}, 2},
		} {
			holdsBest(t, pool.New(free, c.counts, 4, 1), c.want, true)
		}
	}
}

// P23.2 (Best), chapter 21: a count below 0 counts as 0, and so does one that is not there.
func TestBestOfCountsBelow0(t *testing.T) {
	for _, n := range ends() {
		if n > 0 {
			continue
		}
		holdsBest(t, pool.New([]int{0, 1}, []int{0, n}, 4, 1), 0, true)
		holdsBest(t, pool.New([]int{0, 1}, []int{n, 0}, 4, 1), 0, true)
		holdsBest(t, pool.New([]int{0, 1}, []int{1, n}, 4, 1), 1, true)
		holdsBest(t, pool.New([]int{1, 5}, []int{1, n}, 4, 1), 1, true)
		holdsBest(t, pool.New([]int{-5, 1}, []int{n, n}, 4, 1), -5, true)
	}
}

// P23.2 (Best): each row of free blocks, and each row of counts, as the words of chapter 21 tell them.
func TestBestOfEachRow(t *testing.T) {
	lists := rows([]int{-1, 0, 1, 2}, 4)
	for _, free := range rows([]int{0, 1, 2, 4, -1}, 3) {
		for _, counts := range lists {
			g := given{free, counts, 2, 1}
			want, is := g.paper().best()
			holdsBest(t, g.made(), want, is)
		}
	}
}

// P23.2 (Best): behind each kind of call the one that is worn least is told, by the counts as they are then.
func TestBestBehindEachCall(t *testing.T) {
	p := pool.New([]int{4, 2, 3}, []int{0, 0, 1, 1, 2}, 2, 0)
	holdsBest(t, p, 2, true)
	holdsBegin(t, p, 2, true, true)
	holdsBest(t, p, 3, true)
	p.Step()
	holdsBest(t, p, 3, true)
	p.Close()
	holdsBest(t, p, 3, true)
	p.Release(2)
	holdsBest(t, p, 3, true) // 2 has been erased twice now
	holdsBegin(t, p, 3, false, true)
	holdsBest(t, p, 2, true)
	p.Release(3)
	holdsBest(t, p, 2, true)
	holdsBegin(t, p, 2, false, true)
	holdsBest(t, p, 3, true)
	holdsBegin(t, p, 3, false, true)
	holdsBest(t, p, 4, true)
	p.Release(9)
	holdsBest(t, p, 9, true)
	p.Release(7)
	holdsBest(t, p, 7, true)
	p.Release(7)
	holdsBegin(t, p, 2, true, false)
	holdsBest(t, p, 7, true)
}

// P23.2 (Begin): a block that is free is free no more, and has one more count; if ok, the opening is one more, and it is open on page 0; if not, there is no open block, and the opening is as it was.
func TestBeginOfAFreeBlock(t *testing.T) {
	g := given{[]int{5, 2, 3}, []int{9, 9, 4, 7}, 4, 6}
	p := g.made()
	holdsBegin(t, p, 3, true, true)
	holdsTold(t, p, state{room: 12, free: []int{2, 5}, counts: []int{9, 9, 4, 8}, opening: 7, best: 5, has: true, at: at(3, 0), open: true})
	p = g.made()
	holdsBegin(t, p, 3, false, true)
	holdsTold(t, p, state{room: 8, free: []int{2, 5}, counts: []int{9, 9, 4, 8}, opening: 6, best: 5, has: true})
	p = g.made()
	holdsBegin(t, p, 5, true, true)
	holdsTold(t, p, state{room: 12, free: []int{2, 3}, counts: []int{9, 9, 4, 7, 0, 1}, opening: 7, best: 2, has: true, at: at(5, 0), open: true})
	p = g.made()
	holdsBegin(t, p, 2, false, true)
	holdsTold(t, p, state{room: 8, free: []int{3, 5}, counts: []int{9, 9, 5, 7}, opening: 6, best: 5, has: true})
	p = given{[]int{1}, nil, 0, 0}.made()
	holdsBegin(t, p, 1, true, true)
	holdsTold(t, p, state{room: 1, free: []int{}, counts: []int{0, 1}, opening: 1, at: at(1, 0), open: true})
	p = given{[]int{1}, nil, 0, 0}.made()
	holdsBegin(t, p, 1, false, true)
	holdsTold(t, p, state{free: []int{}, counts: []int{0, 1}})
}

// P23.2 (Begin): each of many free blocks, whatever its number, the first, one between, and the last, is taken out, and no other one.
func TestBeginOfEachBlock(t *testing.T) {
	for i, block := range ends() {
		for _, ok := range []bool{true, false} {
			g := given{ends(), []int{5, 6, 7}, 2, 0}
			p := g.made()
			holdsBegin(t, p, block, ok, true)
			if got, want := p.Free(), slices.Delete(ends(), i, i+1); !slices.Equal(got, want) {
				t.Fatalf("block %d: Free is %d", block, got)
			}
			if got, want := p.Counts(), added(g.counts, block); !slices.Equal(got, want) {
				t.Fatalf("block %d: Counts is %s, not %s", block, brief(got), brief(want))
			}
			next, open := p.At()
			if open != ok || ok && next != at(block, 0) || !ok && next != (api.Place{}) {
				t.Fatalf("block %d: At is %d, %t", block, next, open)
			}
			if want := 2 * (len(ends()) - 1); p.Room() != want && !ok || p.Room() != want+2 && ok {
				t.Fatalf("block %d: Room is %d", block, p.Room())
			}
		}
	}
}

// P23.2 (Begin): a block that is not free is not begun, and nothing has changed: one that never was free, though it have a count; one that is open; one that was begun, of ok or not; one that was used up, or closed.
func TestBeginOfABlockThatIsNotFree(t *testing.T) {
	g := given{[]int{5, 2, 9}, []int{9, 9, 4, -3}, 2, 6}
	for _, l := range [][]deed{{}, {{'f', 2}}, {{'f', 5}, {'f', 2}}, {{'b', 2}}, {{'b', 2}, {'c', 0}}, {{'b', 2}, {'s', 0}}, {{'b', 2}, {'s', 0}, {'s', 0}}, {{'b', 2}, {'c', 0}, {'r', 2}, {'f', 2}}, {{'f', 9}, {'b', 5}, {'s', 0}, {'s', 0}, {'f', 2}}} {
		p := holdsDeeds(t, g, l...)
		before := told(p)
		for _, block := range append(ends(), 3, 4, 5, 6, 8, 9, 10) {
			if slices.Contains(p.Free(), block) {
				continue
			}
			holdsBegin(t, p, block, true, false)
			holdsTold(t, p, before, l, block)
			holdsBegin(t, p, block, false, false)
			holdsTold(t, p, before, l, block)
		}
	}
}

// P23.2 (Begin): while a block is open none is begun, on whatever page it is, and nothing has changed: a free one neither, of ok or not; behind its last page, or when it is closed, one is.
func TestBeginWhileABlockIsOpen(t *testing.T) {
	for _, closed := range []bool{true, false} {
		p := pool.New([]int{5, 2, 9, -4}, []int{9, 9, 4, 7}, 3, 6)
		holdsBegin(t, p, 5, true, true)
		for page := range 3 {
			before := told(p)
			for _, block := range []int{-4, 2, 9, 5, 3} {
				holdsBegin(t, p, block, true, false)
				holdsTold(t, p, before, page, block)
				holdsBegin(t, p, block, false, false)
				holdsTold(t, p, before, page, block)
			}
			if closed && page == 1 {
				p.Close()
				break
			}
			p.Step()
		}
		holdsBegin(t, p, 9, true, true)
		holdsTold(t, p, state{room: 9, free: []int{-4, 2}, counts: []int{9, 9, 4, 7, 0, 1, 0, 0, 0, 1}, opening: 8, best: -4, has: true, at: at(9, 0), open: true})
	}
}

// P23.2 (Begin): behind a Begin that was not ok another one may come at once, as no block is open.
func TestBeginsThatFail(t *testing.T) {
	p := pool.New([]int{5, 2, 9}, nil, 3, 6)
	holdsBegin(t, p, 2, false, true)
	holdsBegin(t, p, 5, false, true)
	holdsBegin(t, p, 9, true, true)
	holdsTold(t, p, state{room: 3, free: []int{}, counts: []int{0, 0, 1, 0, 0, 1, 0, 0, 0, 1}, opening: 7, at: at(9, 0), open: true})
}

// P23.2 (Begin), chapter 21: the count goes up to 65535, and stays as it is from there on; a block above 1023, or below 0, has none; a count below 0 is 0 from then on.
func TestBeginCounts(t *testing.T) {
	for n, want := range map[int]int{-7: 1, 0: 1, 65533: 65534, 65534: 65535, 65535: 65535, 65536: 65536, math.MaxInt: math.MaxInt, math.MinInt: 1} {
		for _, ok := range []bool{true, false} {
			p := pool.New([]int{1}, []int{3, n, 4}, 2, 0)
			holdsBegin(t, p, 1, ok, true)
			if got := p.Counts(); !slices.Equal(got, []int{3, want, 4}) {
				t.Errorf("count %d: %d", n, got)
			}
		}
	}
	for _, block := range []int{math.MinInt, -1, 1024, 1025, math.MaxInt} {
		p := pool.New([]int{block}, []int{3, -2, 4}, 2, 0)
		holdsBegin(t, p, block, true, true)
		if got := p.Counts(); !slices.Equal(got, []int{3, 0, 4}) {
			t.Errorf("block %d: %d", block, got)
		}
	}
	p := pool.New([]int{1023}, nil, 1, 0)
	for n := 1; n < 5; n++ {
		holdsBegin(t, p, 1023, n%2 == 0, true)
		p.Close()
		p.Release(1023)
		if got := p.Counts(); len(got) != 1024 || got[1023] != n || slices.Max(got[:1023]) != 0 {
			t.Errorf("%d counts, the last one %d, not %d", len(got), got[1023], n)
		}
	}
}

// P23.2 (Begin): the opening is one more with each block that is opened, and with no other; at its type's end it stays.
func TestOpening(t *testing.T) {
	for _, opening := range openings() {
		p, want := pool.New([]int{2, 3}, nil, 1, opening), opening
		for i := range 12 {
			ok := i%3 != 1
			if ok && want < math.MaxUint64 {
				want++
			}
			holdsBegin(t, p, 2, ok, true)
			holdsBegin(t, p, 2, true, false)
			p.Step()
			holdsBegin(t, p, 4, true, false)
			p.Release(2)
			if got := p.Opening(); got != want {
				t.Fatalf("%d opened of %d: %d, not %d", i, opening, got, want)
			}
		}
	}
}
