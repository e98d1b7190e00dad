package pool_test

import (
	"math"
	"reflect"
	"slices"
	"testing"

	"wagtail/api"
	"wagtail/pool"
)

// P23.1: of a pool that is nil each call answers 0, nothing, or false, whatever it is asked.
func TestNil(t *testing.T) {
	var p *pool.Pool
	for _, block := range ends() {
		if p.Begin(block, true) || p.Begin(block, false) || p.Release(block) {
			t.Fatalf("block %d: true", block)
		}
	}
	p.Step()
	if block, is := p.Close(); block != 0 || is {
		t.Errorf("Close: %d, %t", block, is)
	}
	if got := told(p); !reflect.DeepEqual(got, state{free: []int{}, counts: []int{}}) {
		t.Errorf("%v", got)
	}
}

// holdsNew holds what is told of a pool that is just made: its free blocks and its room; of its counts and its opening what was handed in; and that no block is open.
func holdsNew(t *testing.T, g given, room int, free ...int) {
	t.Helper()
	p := g.made()
	if p == nil {
		t.Fatalf("%v: nil", g)
	}
	if got := p.Free(); !slices.Equal(got, free) {
		t.Fatalf("%v: Free is %d, not %d", g, got, free)
	}
	if got := p.Room(); got != room {
		t.Fatalf("%v: Room is %d, not %d", g, got, room)
	}
	if got := p.Counts(); !slices.Equal(got, g.counts) {
		t.Fatalf("%v: Counts is %d", g, got)
	}
	if got := p.Opening(); got != g.opening {
		t.Fatalf("%v: Opening is %d", g, got)
	}
	if next, is := p.At(); is || next != (api.Place{}) {
		t.Fatalf("%v: At is %d, %t", g, next, is)
	}
	if block, is := p.Close(); is || block != 0 {
		t.Fatalf("%v: Close is %d, %t", g, block, is)
	}
	holdsDeeds(t, g)
}

// P23.1: of no free blocks nothing is free, there is no room, and no block is worn least, however many counts and pages there are.
func TestNewOfNoFreeBlocks(t *testing.T) {
	for _, free := range [][]int{nil, {}, []int{4, 2}[:0]} {
		for _, counts := range [][]int{nil, {}, {3}, {0, 0, 7}, ends()} {
			for _, pages := range ends() {
				holdsNew(t, given{free, counts, pages, 3}, 0)
			}
		}
	}
	if block, is := pool.New(nil, nil, 4, 0).Best(); block != 0 || is {
		t.Errorf("Best: %d, %t", block, is)
	}
}

// P23.1: one free block, of whatever number, however often it is handed in, is free once, and has just its pages for room.
func TestNewOfOneBlock(t *testing.T) {
	for _, block := range ends() {
		for many := 1; many < 5; many++ {
			holdsNew(t, given{slices.Repeat([]int{block}, many), []int{1, 2}, 4, 0}, 4, block)
		}
	}
}

// P23.1: free blocks are told rising, each once, in whatever order they are handed in: rising, falling, and mixed, and however often.
func TestNewTellsFreeRisingEachOnce(t *testing.T) {
	for _, l := range [][]int{{2, 3, 4, 5, 6}, {-3, -1, 0, 2, 9}, {math.MinInt, -1, 0, 1023, math.MaxInt}, {0, 1, 5, 33, 1024}} {
		for _, free := range orders(l) {
			holdsNew(t, given{free, []int{5, 6, 7}, 3, 9}, 15, l...)
		}
		for _, twice := range l {
			for _, free := range orders(append([]int{twice}, l[:4]...)) {
				holdsNew(t, given{free, nil, 3, 9}, 3*len(slices.Compact(slices.Sorted(slices.Values(free)))), slices.Compact(slices.Sorted(slices.Values(free)))...)
			}
		}
	}
	falling := slices.Clone(ends())
	slices.Reverse(falling)
	holdsNew(t, given{falling, nil, 2, 0}, 2*len(ends()), ends()...)
	holdsNew(t, given{slices.Concat(falling, ends(), falling), nil, 2, 0}, 2*len(ends()), ends()...)
	for _, free := range rows([]int{-1, 0, 1, 2}, 5) {
		once := slices.Compact(slices.Sorted(slices.Values(free)))
		holdsNew(t, given{free, nil, 7, 0}, 7*len(once), once...)
	}
	// What stands in a list's spare room is no free block.
	holdsNew(t, given{[]int{5, 6, 7, 8}[:2], nil, 2, 0}, 4, 5, 6)
}

// P23.1: the counts are told as they are handed in: fewer than there are blocks, more, none at all, some below 0, some at their greatest.
func TestNewTellsCounts(t *testing.T) {
	for _, counts := range [][]int{nil, {}, {0}, {3}, {3, 1, 4}, {1, 2, 3, 4, 5, 6, 7, 8, 9}, {-1, 5, -7}, {65535, 65536, 65534}, ends(), slices.Repeat([]int{2}, 1100)} {
		holdsNew(t, given{[]int{5, 2}, counts, 4, 1}, 8, 2, 5)
		holdsNew(t, given{nil, counts, 4, 1}, 0)
	}
	holdsNew(t, given{[]int{5, 2}, []int{5, 6, 7, 8}[:2], 4, 1}, 8, 2, 5)
}

// P23.1: pages below 1 count as 1; others are as many as they are.
func TestNewOfPages(t *testing.T) {
	for _, pages := range ends() {
		holdsNew(t, given{[]int{3}, nil, pages, 0}, max(pages, 1), 3)
		if pages < 1<<60 {
			holdsNew(t, given{[]int{3, 9}, nil, pages, 0}, 2*max(pages, 1), 3, 9)
		}
		p := pool.New([]int{3}, nil, pages, 0)
		p.Begin(3, true)
		p.Step()
		if next, is := p.At(); is != (pages > 1) || is && next != at(3, 1) {
			t.Errorf("of %d pages: %d, %t", pages, next, is)
		}
	}
}

// P23.1: the opening is told as it is handed in.
func TestNewOfOpenings(t *testing.T) {
	for _, opening := range openings() {
		holdsNew(t, given{[]int{3, 2}, []int{1}, 4, opening}, 8, 2, 3)
		holdsNew(t, given{nil, nil, 0, opening}, 0)
	}
}

// P23.1 (Room): a sum that would be no int is the greatest one, with an open block and without; what is below it is told as it is.
func TestRoomAtTheEnds(t *testing.T) {
	holdsNew(t, given{[]int{3, 2}, nil, 1<<62 - 1, 0}, 1<<63-2, 2, 3)
	holdsNew(t, given{[]int{3, 2}, nil, 1 << 62, 0}, math.MaxInt, 2, 3)
	holdsNew(t, given{[]int{3, 2}, nil, math.MaxInt, 0}, math.MaxInt, 2, 3)
	holdsNew(t, given{[]int{6, 5, 4, 3}, nil, 1 << 62, 0}, math.MaxInt, 3, 4, 5, 6)
	holdsNew(t, given{[]int{7, 6, 5, 4, 3, 2, 1, 0}, nil, math.MaxInt - 1, 0}, math.MaxInt, 0, 1, 2, 3, 4, 5, 6, 7)
	for _, pages := range ends() {
		holdsDeeds(t, given{[]int{3, 2, 7}, nil, pages, 0}, deed{'b', 2}, deed{'s', 0}, deed{'s', 0}, deed{'f', 3}, deed{'c', 0}, deed{'f', 7}, deed{'b', 3}, deed{'s', 0}, deed{'r', 2})
	}
	// There is one page more than an int holds: the first one that is used is not told.
	p := pool.New([]int{3, 2}, nil, 1<<62, 0)
	p.Begin(3, true)
	for _, want := range []int{math.MaxInt, math.MaxInt, math.MaxInt - 1, math.MaxInt - 2} {
		if got := p.Room(); got != want {
			t.Fatalf("Room is %d, not %d", got, want)
		}
		p.Step()
	}
}
