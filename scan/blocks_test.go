package scan_test

import (
	"math"
	"slices"
	"testing"

	"wagtail/api"
	"wagtail/nand"
	"wagtail/scan"
)

// sorted holds that Blocks and Marked tell these blocks.
func sorted(t *testing.T, d *nand.Device, blocks, marked []int) {
	t.Helper()
	if got := scan.Blocks(d); !slices.Equal(got, blocks) {
		t.Errorf("Blocks: %d, not %d", got, blocks)
	}
	if got := scan.Marked(d); !slices.Equal(got, marked) {
		t.Errorf("Marked: %d, not %d", got, marked)
	}
}

// split are the data blocks of sides that are not among bad, and those that are, as the chapter says.
func split(g api.Geom, bad []int) (blocks, marked []int) {
	for block := 2; block < g.Blocks; block++ {
		if slices.Contains(bad, block) {
			marked = append(marked, block)
		} else {
			blocks = append(blocks, block)
		}
	}
	return blocks, marked
}

// row are numbers, each one more than the one ahead of it.
func row(from, to int) []int {
	var l []int
	for n := from; n <= to; n++ {
		l = append(l, n)
	}
	return l
}

// P18.1: nil has no blocks.
func TestBlocksOfNil(t *testing.T) {
	sorted(t, nil, nil, nil)
}

// P18.1, example 1: a new device of 8 blocks has 6 data blocks; and others, written out.
func TestBlocksWrittenOut(t *testing.T) {
	sorted(t, made(t, dev(8, 4), nil), []int{2, 3, 4, 5, 6, 7}, nil)
	sorted(t, made(t, dev(8, 4), []int{2}), []int{3, 4, 5, 6, 7}, []int{2})
	sorted(t, made(t, dev(8, 4), []int{7}), []int{2, 3, 4, 5, 6}, []int{7})
	sorted(t, made(t, dev(8, 4), []int{6, 4, 6, 0}), []int{2, 3, 5, 7}, []int{4, 6})
	sorted(t, made(t, dev(8, 4), row(2, 7)), nil, row(2, 7))
	sorted(t, made(t, dev(34, 4), nil), row(2, 33), nil)
	sorted(t, made(t, dev(34, 32), []int{33, 2}), row(3, 32), []int{2, 33})
	sorted(t, made(t, dev(34, 32), row(0, 33)), nil, row(2, 33))
}

// P18.1: of each sides: no block marked, each one alone, the first and the last data block, all but one, all, the blocks 0 and 1 alone.
func TestBlocksOfEachSides(t *testing.T) {
	for _, g := range sides() {
		last := g.Blocks - 1
		lists := [][]int{nil, {}, {0}, {1}, {0, 1}, {2, last}, {last, 2}, row(2, last), row(0, last), row(2, last-1), row(3, last)}
		for block := range g.Blocks {
			lists = append(lists, []int{block}, slices.DeleteFunc(row(0, last), func(b int) bool { return b == block }))
		}
		for _, bad := range lists {
			blocks, marked := split(g, bad)
			sorted(t, made(t, g, bad), blocks, marked)
		}
	}
}

// P18.1: marks that come out of order, twice, and of no block.
func TestBlocksOfMarksInAnyOrder(t *testing.T) {
	for _, g := range sides() {
		last := g.Blocks - 1
		falling := row(0, last)
		slices.Reverse(falling)
		for _, bad := range [][]int{{5, 3}, {7, 2, 5}, {4, 4}, {6, 3, 6, 3, 3}, {1, 5, 0, 2, 1}, falling, append(falling, row(0, last)...), append([]int{5}, beside()...), {-1, g.Blocks, math.MinInt, math.MaxInt, 3, g.Blocks + 5}} {
			in := slices.DeleteFunc(slices.Clone(bad), func(b int) bool { return b < 0 || b > last })
			blocks, marked := split(g, in)
			sorted(t, made(t, g, bad), blocks, marked)
		}
	}
}

// P18.1: each row of 8 blocks, each of them marked or not.
func TestBlocksOfAllMarks(t *testing.T) {
	for marks := range 256 {
		var bad []int
		for block := range 8 {
			if marks>>block&1 == 1 {
				bad = append(bad, block)
			}
		}
		blocks, marked := split(dev(8, 4), bad)
		sorted(t, made(t, dev(8, 4), bad), blocks, marked)
	}
}

// P18.1: a device that is down has its blocks still.
func TestBlocksOfADeviceThatIsDown(t *testing.T) {
	d := dark(t)
	for range 2 {
		sorted(t, d, []int{2, 3, 4, 5, 7}, []int{6})
		d.Power()
	}
}

// P18.1: whatever a block has on its pages, and whatever failed there: it is marked just if it was so from the first.
func TestBlocksThatFailed(t *testing.T) {
	d := made(t, dev(8, 4), []int{3}, fault(0, api.FFail, 15), fault(2, api.FFail, 15), fault(3, api.FCut, 0))
	if e := d.Program(at(2, 0), of(t, api.KData, 1).b); e != api.ErrFail {
		t.Fatalf("error %d", e)
	}
	program(t, d, 4, of(t, api.KData, 2))
	if e := d.Erase(5); e != api.ErrFail {
		t.Fatalf("error %d", e)
	}
	if e := d.Erase(7); e != api.ErrDown {
		t.Fatalf("error %d", e)
	}
	sorted(t, d, []int{2, 4, 5, 6, 7}, []int{3})
	d.Power()
	sorted(t, d, []int{2, 4, 5, 6, 7}, []int{3})
}
