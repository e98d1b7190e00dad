package place_test

import (
	"slices"
	"testing"

	"wagtail/api"
	"wagtail/place"
)

// P20.1: of no versions nothing is chosen, whatever is bad.
func TestNoVersions(t *testing.T) {
	holdsPlaces(t, nil, nil)
	holdsPlaces(t, nil, ends())
	holdsPlaces(t, []api.Copies{}, []int{})
	holdsPlaces(t, set(nil, []int{}, nil), nil)
	holdsPlaces(t, set(nil, []int{}, nil), ends())
}

// P20.1: of one version the first place is chosen, whatever others it has: they are in no block that is used.
func TestOneVersion(t *testing.T) {
	for _, block := range ends() {
		for _, page := range ends() {
			c := api.Copies{Lpn: page, Kind: block, At: []api.Place{at(block, page)}}
			for _, bad := range [][]int{nil, {block}, {0, block, block}, ends()} {
				holdsPlaces(t, []api.Copies{c}, bad, at(block, page))
				more := c
				more.At = []api.Place{at(block, page), at(7, 1), at(block, 9), at(5, 3), at(-9, page), at(block, page)}
				holdsPlaces(t, []api.Copies{more}, bad, at(block, page))
			}
		}
	}
}

// P20.1: versions without a place are left out, alone, first, last and among others.
func TestVersionsWithoutAPlace(t *testing.T) {
	whole := set([]int{5, 3}, []int{3}, []int{4, 2}, []int{2})
	want := []int{3, 3, 2, 2}
	holdsBlocks(t, whole, nil, want...)
	for _, marks := range parts(5) {
		v := slices.Clone(whole)
		for _, i := range marks {
			v = slices.Insert(v, i, api.Copies{Lpn: 1, Kind: 2}, api.Copies{Lpn: 9, At: []api.Place{}})
		}
		holdsBlocks(t, v, nil, want...)
	}
}

// P20.1: as long as no block can be freed, it is the newest choice: of versions that have one copy each, or none in another block that is used.
func TestNewestChoice(t *testing.T) {
	holdsBlocks(t, set([]int{5}, []int{3}, []int{4}, []int{3}), nil, 5, 3, 4, 3)
	holdsBlocks(t, set([]int{5, 6}, []int{3, 7, 8}, []int{4, 6}, []int{3, 6}), nil, 5, 3, 4, 3)
	holdsBlocks(t, set([]int{5, 5}, []int{3, 3, 3}, []int{4, 4}), nil, 5, 3, 4)
	holdsBlocks(t, set([]int{5, 3}, []int{5}, []int{3, 5}, []int{3}), nil, 5, 5, 3, 3)
}

// P20.1: the chapter's example: two pages, both copied from block 3 to block 4, but a third one, in block 3 alone: block 4 is free.
func TestTheExample(t *testing.T) {
	v := []api.Copies{
		{Lpn: 1, Kind: api.KData, At: []api.Place{at(4, 0), at(3, 2)}},
		{Lpn: 2, Kind: api.KMeta, At: []api.Place{at(4, 1), at(3, 5)}},
		{Lpn: 3, Kind: api.KData, At: []api.Place{at(3, 6)}},
	}
	for _, l := range orders(v) {
		got := place.Choose(l, nil)
		if used := place.Used(got); !slices.Equal(used, []int{3}) {
			t.Errorf("%v: used %d", l, used)
		}
		if free := place.Free([]int{2, 3, 4, 5}, []int{2}, got); !slices.Equal(free, []int{4, 5}) {
			t.Errorf("%v: free %d", l, free)
		}
	}
	holdsPlaces(t, v, nil, at(3, 2), at(3, 5), at(3, 6))
	holdsPlaces(t, v[:2], nil, at(4, 0), at(4, 1))
	holdsPlaces(t, v, []int{3}, at(4, 0), at(4, 1), at(3, 6))
	holdsPlaces(t, v, []int{4}, at(4, 0), at(4, 1), at(3, 6))
}

// P20.1: of several blocks that can be freed the least one is, wherever it stands, though it be the newest one.
func TestTheLeastIsFreed(t *testing.T) {
	for _, a := range ends() {
		for _, b := range ends() {
			want := max(a, b)
			holdsBlocks(t, set([]int{a, b}, []int{b, a}), nil, want, want)
		}
	}
	for _, l := range orders(set([]int{2, 3, 4}, []int{3, 4, 2}, []int{4, 2, 3})) {
		holdsBlocks(t, l, nil, 4, 4, 4)
		holdsBlocks(t, l, []int{9, 1}, 4, 4, 4)
	}
	// Of 2, 3 and 4 either 2 can be freed, or 3 and 4.
	holdsBlocks(t, set([]int{2, 3}, []int{2, 4}, []int{3, 2}, []int{4, 2}), nil, 3, 4, 3, 4)
	// Of 6, 3 and 4 either 6 can be freed, or 3 and 4: so 3 and 4 are.
	holdsBlocks(t, set([]int{6, 3}, []int{6, 4}, []int{3, 6}, []int{4, 6}), nil, 6, 6, 6, 6)
}

// P20.1: several blocks are freed one behind the other, and what stood in one of them may be moved again and again.
func TestSeveralAreFreed(t *testing.T) {
	holdsBlocks(t, set([]int{2, 3, 4, 5}, []int{3, 4, 5}, []int{4, 5}, []int{5}), nil, 5, 5, 5, 5)
	holdsBlocks(t, set([]int{2, 3}, []int{3}, []int{4, 5}, []int{5}), nil, 3, 3, 5, 5)
	holdsBlocks(t, set([]int{4, 5}, []int{5}, []int{2, 3}, []int{3}, []int{7}), nil, 5, 5, 3, 3, 7)
	holdsBlocks(t, set([]int{2, 3, 5}, []int{3, 5}, []int{5, 2}), nil, 5, 5, 5)
}

// P20.1: a block that could be freed at first can't be any more behind a lesser one: what is moved to it stays, or what it would go to is no more used.
func TestABlockThatCanBeFreedNoMore(t *testing.T) {
	// Block 3 can be freed by itself, as its page is in 2: behind 2 it can't.
	holdsBlocks(t, set([]int{3, 2}, []int{2, 4}, []int{4}), nil, 3, 4, 4)
	// Behind 2 its page stands in 3, and is in no other block that is used.
	holdsBlocks(t, set([]int{2, 3}, []int{3, 4}, []int{4}), nil, 3, 3, 4)
	// A lesser one that can't be freed takes nothing away.
	holdsBlocks(t, set([]int{3, 2}, []int{2, 5}, []int{4}), nil, 2, 2, 4)
	// Where the page is in a third one, too, both are freed.
	holdsBlocks(t, set([]int{3, 2, 4}, []int{2, 4}, []int{4}), nil, 4, 4, 4)
	holdsBlocks(t, set([]int{2, 3, 4}, []int{3, 4}, []int{4}), nil, 4, 4, 4)
}

// P20.1: the first copy that is in another used block is chosen, in the order of the copies: ahead of the one that was chosen, or behind it; whether its block is lesser or not.
func TestTheFirstOtherCopy(t *testing.T) {
	rest := set([]int{5}, []int{7}, []int{9})
	holdsBlocks(t, append(set([]int{6, 9, 5, 7}), rest...), nil, 9, 5, 7, 9)
	holdsBlocks(t, append(set([]int{6, 5, 7, 9}), rest...), nil, 5, 5, 7, 9)
	holdsBlocks(t, append(set([]int{6, 6, 4, 8, 7, 5}), rest...), nil, 7, 5, 7, 9)
	// Of several copies in one block it is the first one, whatever their pages are.
	c := api.Copies{At: []api.Place{at(6, 1), at(8, 0), at(9, 4), at(9, 2), at(9, 4), at(5, 0)}}
	holdsPlaces(t, append(rest, c), nil, at(5, 0), at(7, 1), at(9, 2), at(9, 4))
	// What was moved goes on to a copy that is listed behind: those ahead of it are in blocks that are no more used, or never were.
	holdsBlocks(t, append(set([]int{2, 8, 4, 6, 9, 5}, []int{4, 9}, []int{3}), rest...), nil, 9, 9, 3, 5, 7, 9)
	holdsBlocks(t, append(set([]int{2, 8, 4, 6, 9, 5}, []int{4, 9}, []int{8}), rest...), nil, 8, 9, 8, 5, 7, 9)
	// A copy in a bad block is left out, wherever it is listed.
	holdsBlocks(t, append(set([]int{4, 3, 5}, []int{3}), rest...), []int{3}, 5, 3, 5, 7, 9)
	holdsBlocks(t, append(set([]int{4, 5, 3}, []int{3}), rest...), []int{3}, 5, 3, 5, 7, 9)
}

// P20.1: a version that has a place twice, or two in one block, has no other copy for that.
func TestCopiesInOneBlock(t *testing.T) {
	v := []api.Copies{{At: []api.Place{at(2, 0), at(2, 0), at(2, 1)}}, {At: []api.Place{at(3, 4), at(3, 4), at(2, 1), at(2, 0)}}}
	holdsPlaces(t, v, nil, at(2, 0), at(2, 1))
	holdsPlaces(t, v[:1], nil, at(2, 0))
	holdsPlaces(t, append(v, v...), nil, at(2, 0), at(2, 1), at(2, 0), at(2, 1))
	holdsPlaces(t, v, []int{2}, at(2, 0), at(3, 4))
	holdsPlaces(t, v, []int{3}, at(2, 0), at(3, 4))
}

// P20.1: a bad block is not freed, and nothing is moved to it: whatever else is bad, in whatever order, and however often it is listed.
func TestBadBlocks(t *testing.T) {
	v := set([]int{2, 3}, []int{3, 2}, []int{4, 2}, []int{4, 3})
	for block, want := range map[int][]int{1: {3, 3, 4, 4}, 2: {2, 3, 4, 4}, 3: {2, 3, 4, 4}, 4: {3, 3, 4, 4}} {
		holdsBlocks(t, v, []int{block}, want...)
		holdsBlocks(t, v, []int{99, block, -1, block, 1 << 40}, want...)
	}
	holdsBlocks(t, set([]int{2, 3}, []int{3}), []int{2}, 2, 3)
	holdsBlocks(t, set([]int{2, 3}, []int{3}), []int{3}, 2, 3)
	holdsBlocks(t, set([]int{2, 3}, []int{3}), []int{4, 1, -2, -3}, 3, 3)
	holdsBlocks(t, set([]int{2, 3, 4}, []int{3}, []int{4}), []int{3}, 4, 3, 4)
	holdsBlocks(t, set([]int{2, 3, 4}, []int{3}, []int{4}), []int{4, 3}, 2, 3, 4)
	for _, block := range ends() {
		holdsBlocks(t, set([]int{2, block}, []int{block}), append(ends(), 7), 2, block)
		holdsBlocks(t, set([]int{block, 3}, []int{3}), []int{block}, block, 3)
		holdsBlocks(t, set([]int{block, 3}, []int{3}), slices.DeleteFunc(ends(), func(b int) bool { return b == block }), 3, 3)
	}
}

// P20.1: a page whose first place is in a bad block stays there, though it has copies in others, as do those that have their others in bad ones alone.
func TestPagesInBadBlocks(t *testing.T) {
	v := set([]int{5, 3}, []int{3}, []int{6, 5}, []int{6, 3})
	holdsBlocks(t, v, []int{5}, 5, 3, 6, 6)
	holdsBlocks(t, v, []int{3}, 5, 3, 6, 6)
	holdsBlocks(t, v, []int{6}, 3, 3, 6, 6)
	holdsBlocks(t, v[:2], []int{5}, 5, 3)
	holdsBlocks(t, v[:2], []int{3}, 5, 3)
	holdsBlocks(t, v[:2], []int{3, 5}, 5, 3)
	holdsBlocks(t, v[:2], nil, 3, 3)
}
