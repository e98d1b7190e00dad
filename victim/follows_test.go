package victim_test

import (
	"slices"
	"testing"

	"wagtail/api"
	"wagtail/geom"
	"wagtail/victim"
)

// P22.1, P22.2, P22.3: each row of up to three blocks, each row of up to four places in four blocks, and pages about what they keep.
func TestEachRow(t *testing.T) {
	numbers := []int{-1, 0, 1, 2}
	var lists [][]api.Place
	for _, row := range rows(numbers, 4) {
		lists = append(lists, in(row...))
	}
	for _, blocks := range rows(numbers, 3) {
		for _, l := range lists {
			for pages := -1; pages < 6; pages++ {
				holds(t, blocks, l, pages)
			}
		}
	}
}

// P22.1, P22.2, P22.3: many blocks and places, few and many of them in one, and numbers at the ends of their types.
func TestManyRows(t *testing.T) {
	for seed := range 2000 {
		x := dice(seed)
		n := 1 + x.below(12)
		blocks, l := x.blocks(x.below(20), n), x.places(x.below(60), n)
		for range 4 {
			holds(t, blocks, l, x.below(14)-1)
		}
		holds(t, x.far(x.below(12)), in(x.far(x.below(24))...), x.below(5))
		holds(t, x.far(x.below(12)), in(x.far(x.below(24))...), x.end())
		holds(t, append(blocks, x.end()), append(l, at(x.end(), x.end())), x.end())
	}
}

// P22.3: no other block gains more than the one that is picked, whatever is taken away from what was handed in; without it the next one in order is picked.
func TestTheNextOneIsPicked(t *testing.T) {
	for seed := range 500 {
		x := dice(seed)
		n := 2 + x.below(9)
		blocks, l := slices.Compact(slices.Sorted(slices.Values(x.blocks(2+x.below(20), n)))), x.places(x.below(40), n)
		shuffle(&x, blocks)
		pages := 1 + x.below(9)
		for _, want := range victim.Order(blocks, l) {
			block, is := victim.Pick(blocks, l, pages)
			if !is {
				holdsTotal(t, blocks, l, pages, 0)
				break
			}
			follows(t, blocks, l, pages)
			if block != want {
				t.Fatalf("Pick(%d, %v, %d) = %d, not %d", blocks, l, pages, block, want)
			}
			blocks = slices.DeleteFunc(blocks, func(b int) bool { return b == block })
		}
	}
}

// P22.3: of a device whose data blocks keep fewer pages in all than they have one is picked, and it gains at least its part of what is gained in all.
func TestADevice(t *testing.T) {
	g := api.Geom{Blocks: 12, Pages: 8, Reserve: 2}
	var blocks []int
	for block := 2; block < g.Blocks; block++ {
		blocks = append(blocks, block)
	}
	for seed := range 200 {
		x := dice(seed)
		// Each logical page stands somewhere, no two in one place.
		all := make([]api.Place, 0, len(blocks)*g.Pages)
		for _, block := range blocks {
			for page := range g.Pages {
				all = append(all, at(block, page))
			}
		}
		shuffle(&x, all)
		l := all[:geom.Logical(g, nil)]
		block, is := victim.Pick(blocks, l, g.Pages)
		if !is || !slices.Contains(blocks, block) {
			t.Fatalf("Pick of %v = %d, %t", l, block, is)
		}
		follows(t, blocks, l, g.Pages)
		holdsTotal(t, blocks, l, g.Pages, len(all)-len(l))
		if got := victim.Gain(l, block, g.Pages); got*len(blocks) < len(all)-len(l) {
			t.Fatalf("block %d gains %d of %d", block, got, len(all)-len(l))
		}
	}
}

// R1: a great many blocks, of which each keeps another part of a great many places.
func TestAGreatMany(t *testing.T) {
	const many = 1 << 12
	var blocks []int
	var l []api.Place
	for i := range many {
		blocks = append(blocks, many-1-i)
		l = append(l, times(i, 1+i%7)...)
	}
	holdsPick(t, blocks, l, 2, 0)
	holdsPick(t, blocks[:many-1], l, 2, 7)
	holdsNone(t, blocks, l, 1)
	holdsGain(t, l, 13, 9, 2)
	holdsTotal(t, blocks, l, 7, 7*many-len(l))
	got := victim.Order(blocks, l)
	if len(got) != many {
		t.Fatalf("%d in order", len(got))
	}
	for i, block := range got[1:] {
		if before := got[i]; before%7 > block%7 || before%7 == block%7 && before >= block {
			t.Fatalf("block %d ahead of %d", before, block)
		}
	}
	// And few blocks, a great many times.
	blocks = slices.Repeat([]int{9, 8, 9}, 1<<16)
	holdsPick(t, blocks, times(8, 3), 4, 9)
	holdsTotal(t, blocks, times(8, 3), 4, 9<<16)
	if got := victim.Order(blocks, times(8, 3)); len(got) != 3<<16 || got[2<<16-1] != 9 || got[2<<16] != 8 {
		t.Errorf("%d in order", len(got))
	}
}
