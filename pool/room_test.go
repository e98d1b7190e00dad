package pool_test

import (
	"slices"
	"testing"

	"wagtail/pool"
)

// The chapter's example: free 2 and 3, of 4 pages.
func TestTheExample(t *testing.T) {
	p := pool.New([]int{2, 3}, nil, 4, 0)
	if got := p.Room(); got != 8 {
		t.Errorf("Room %d", got)
	}
	holdsBegin(t, p, 2, true, true)
	if got := p.Room(); got != 8 {
		t.Errorf("Room %d behind Begin", got)
	}
	p.Step()
	if got := p.Room(); got != 7 {
		t.Errorf("Room %d behind Step", got)
	}
	holdsAt(t, p, at(2, 1))
}

// P23.4: Room is what Steps, and Begins, can be told till nothing is left, from new pools of all kinds, whichever free block is begun next.
func TestRoomOfNewPools(t *testing.T) {
	for _, free := range [][]int{nil, {3}, {3, 3}, {5, 2, 9}, {-1, 0, 1, 1 << 40}, ends()} {
		for _, counts := range [][]int{nil, {4, 0, 7, 1}, {-1, 65535}, ends()} {
			for pages := -1; pages < 34; pages++ {
				g := given{free, counts, pages, 3}
				p := g.made()
				holdsDrain(t, p, p.Best)
				p = g.made()
				holdsDrain(t, p, ending(p.Free))
			}
		}
	}
}

// ending tells the last one of what is free, and whether there is one.
func ending(free func() []int) func() (int, bool) {
	return func() (int, bool) {
		l := free()
		if len(l) == 0 {
			return 0, false
		}
		return l[len(l)-1], true
	}
}

// P23.4: a Begin that is not ok takes a block's pages away; a Close, what the open block has left; a Release gives a block's pages back: what is left then can be used up, and no more.
func TestRoomBehindDeeds(t *testing.T) {
	for _, c := range []struct {
		l    []deed
		room int
	}{
		{[]deed{{'f', 2}}, 8},
		{[]deed{{'f', 2}, {'f', 5}, {'f', 9}}, 0},
		{[]deed{{'f', 2}, {'r', 2}}, 12},
		{[]deed{{'b', 2}}, 12},
		{[]deed{{'b', 2}, {'s', 0}}, 11},
		{[]deed{{'b', 2}, {'s', 0}, {'r', 2}}, 11},
		{[]deed{{'b', 2}, {'s', 0}, {'s', 0}, {'s', 0}, {'s', 0}}, 8},
		{[]deed{{'b', 2}, {'s', 0}, {'s', 0}, {'s', 0}, {'s', 0}, {'s', 0}}, 8},
		{[]deed{{'b', 2}, {'s', 0}, {'c', 0}}, 8},
		{[]deed{{'b', 2}, {'s', 0}, {'c', 0}, {'r', 2}}, 12},
		{[]deed{{'b', 2}, {'s', 0}, {'r', 4}, {'r', 0}, {'r', 4}}, 19},
		{[]deed{{'b', 2}, {'s', 0}, {'f', 5}, {'b', 9}}, 11},
		{[]deed{{'f', 5}, {'b', 2}, {'s', 0}, {'c', 0}, {'b', 9}, {'s', 0}}, 3},
		{[]deed{{'b', 2}, {'r', -1}, {'f', 7}}, 12},
	} {
		p := holdsDeeds(t, given{[]int{5, 2, 9}, []int{1, 2, 3}, 4, 0}, c.l...)
		if got := p.Room(); got != c.room {
			t.Fatalf("%v: Room is %d, not %d", c.l, got, c.room)
		}
		holdsDrain(t, p, p.Best)
	}
}

// all are all deeds that matter of a pool with a block that is free, one that is not, and one below 0.
func all() []deed {
	return []deed{{'b', 0}, {'b', 1}, {'b', -1}, {'f', 0}, {'f', 1}, {'s', 0}, {'c', 0}, {'r', 0}, {'r', 1}, {'r', -1}}
}

// P23.1 to P23.4: each row of up to five deeds, of pools of one page and of two, with one free block and with two: what is answered, and all that is told behind each of them; and that the room that is left can be used up.
func TestEachRowOfDeeds(t *testing.T) {
	lists := rows(all(), 5)
	for _, g := range []given{{[]int{1}, []int{1}, 1, 0}, {[]int{1, 0}, []int{1}, 2, 3}, {[]int{0, -1}, nil, 2, 8}} {
		for _, l := range lists {
			// Rows that are shorter were begun in longer ones.
			if len(l) == 5 {
				p := holdsDeeds(t, g, l...)
				holdsDrain(t, p, p.Best)
			}
		}
	}
}

// P23.1 to P23.4: long rows of deeds, of pools of many kinds, with numbers at the types' ends: what is answered, and all that is told behind each of them; and that the room that is left can be used up.
func TestManyDeeds(t *testing.T) {
	for seed := range 1500 {
		x := dice(seed + 9000)
		g := gives(seed)
		p := holdsDeeds(t, g, x.deeds(60)...)
		if g.pages < 1000 {
			holdsDrain(t, p, p.Best)
		}
	}
}

// P23.4: a pool that is used up and given back all its blocks has the same room again, time and again, and all are worn alike in the end.
func TestRoomAgainAndAgain(t *testing.T) {
	free := []int{2, 3, 4, 5, 6, 7}
	p := pool.New(free, nil, 8, 0)
	for turn := range 50 {
		if got := p.Room(); got != 48 {
			t.Fatalf("turn %d: Room is %d", turn, got)
		}
		holdsDrain(t, p, p.Best)
		for _, block := range free {
			holdsRelease(t, p, block, true)
		}
		want := append([]int{0, 0}, slices.Repeat([]int{turn + 1}, 6)...)
		if got := p.Counts(); !slices.Equal(got, want) || p.Opening() != uint64(6*turn+6) {
			t.Fatalf("turn %d: %d, Opening %d", turn, got, p.Opening())
		}
	}
}

// R1: a great many free blocks, which are all used up.
func TestAGreatMany(t *testing.T) {
	const many = 1 << 12
	var falling []int
	for block := 2*many - 1; block >= 0; block-- {
		falling = append(falling, block/2)
	}
	p := pool.New(falling, falling, 1, 0)
	if got := p.Room(); got != many || len(p.Free()) != many || p.Free()[9] != 9 {
		t.Fatalf("Room %d, %d free", got, len(p.Free()))
	}
	for block := range many {
		if !p.Begin(many-1-block, block%2 == 0) {
			t.Fatalf("Begin(%d)", many-1-block)
		}
		p.Step()
	}
	if p.Room() != 0 || len(p.Free()) != 0 || p.Opening() != many/2 {
		t.Fatalf("Room %d, %d free, Opening %d", p.Room(), len(p.Free()), p.Opening())
	}
	for _, block := range falling[:many] {
		p.Release(block)
	}
	if p.Room() != many/2 || p.Free()[0] != many/2 {
		t.Fatalf("Room %d", p.Room())
	}
}
