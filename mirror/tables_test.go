package mirror_test

import (
	"math"
	"testing"

	"wagtail/api"
	"wagtail/mirror"
	"wagtail/nand"
)

// P17.1: Tables of a device that is nil, or down, are none.
func TestTablesOfNoDevice(t *testing.T) {
	for name, d := range map[string]*nand.Device{"nil": nil, "down": dark(t)} {
		for _, region := range []int{math.MinInt, -1, 0, 1, 2, math.MaxInt} {
			if l := mirror.Tables(d, region); len(l) != 0 {
				t.Errorf("%s, region %d: %v", name, region, l)
			}
		}
	}
	d := dark(t)
	d.Power()
	for region := range 2 {
		if l := mirror.Tables(d, region); len(l) != 1 {
			t.Errorf("region %d, once the power is back: %v", region, l)
		}
	}
}

// P17.1: a block that is no region has no tables, even if there are some on its pages.
func TestTablesOfNoRegion(t *testing.T) {
	d := made(t, dev(8, 4), nil)
	for b := range 8 {
		program(t, d, b, laid(t, sheet(uint64(b), b)))
	}
	for _, region := range []int{math.MinInt, math.MinInt + 1, -1 << 32, -1<<32 + 1, -256, -8, -2, -1, 2, 3, 7, 8, 33, 34, 256, 257, 1 << 16, 1 << 31, 1 << 32, 1<<32 + 1, 1 << 62, 1<<62 + 1, math.MaxInt - 1, math.MaxInt} {
		if l := mirror.Tables(d, region); len(l) != 0 {
			t.Errorf("region %d: %v", region, l)
		}
	}
	for region := range 2 {
		if l := mirror.Tables(d, region); !all(l, []api.Table{sheet(uint64(region), region)}) {
			t.Errorf("region %d: %v", region, l)
		}
	}
}

// P17.1: Tables are those of all pages, in the pages' order, of one region alone: from no page to all, whatever their Seqs.
func TestTablesInOrder(t *testing.T) {
	x := dice(17)
	for _, g := range sides() {
		for region := range 2 {
			d := made(t, g, nil)
			var want []api.Table
			for range g.Pages {
				if l := mirror.Tables(d, region); !all(l, want) {
					t.Fatalf("%d, region %d: %v, not %v", g, region, l, want)
				}
				y := sheet(uint64(x.below(4)), x.below(1000))
				program(t, d, region, laid(t, y))
				want = append(want, y)
			}
			if l := mirror.Tables(d, region); !all(l, want) {
				t.Fatalf("%d, region %d: %v, not %v", g, region, l, want)
			}
			if l := mirror.Tables(d, 1-region); len(l) != 0 {
				t.Fatalf("%d, region %d, of which no page was programmed: %v", g, 1-region, l)
			}
		}
	}
}

// P17.1: pages that are Blank, Torn, or Right and no table's, are left out, ahead of tables, between them, and behind them.
func TestTablesAmongOtherPages(t *testing.T) {
	torn, others := torn(t), others(t)
	// Each row of up to four pages, each of one of four kinds, is a number to the base of four.
	for n, rows := range []int{1, 4, 16, 64, 256} {
		for row := range rows {
			region := row % 2
			d := made(t, dev(8, 4), nil)
			var want []api.Table
			for rest, i := row, 0; i < n; rest, i = rest/4, i+1 {
				switch y := sheet(uint64(row), i); rest % 4 {
				case 0:
					program(t, d, region, laid(t, y))
					want = append(want, y)
				case 1:
					program(t, d, region, blank())
				case 2:
					program(t, d, region, torn[(row+i)%len(torn)])
				case 3:
					program(t, d, region, others[(row+i)%len(others)])
				}
			}
			if l := mirror.Tables(d, region); !all(l, want) {
				t.Fatalf("row %d of %d pages: %v, not %v", row, n, l, want)
			}
		}
	}
}

// P17.1: no page that is Torn, or Right and no table's, is told as a table.
func TestTablesThatAreNone(t *testing.T) {
	for _, b := range append(append(torn(t), others(t)...), blank()) {
		for region := range 2 {
			d := made(t, dev(8, 4), nil)
			program(t, d, region, b)
			if l := mirror.Tables(d, region); len(l) != 0 {
				t.Errorf("region %d, of %d: %v", region, b, l)
			}
			none(t, d, api.ErrNone)
		}
	}
}

// P17.1: where an erase was torn, tables are those whose pages are as they were, also where no page is the next one any more.
func TestTablesBehindATornErase(t *testing.T) {
	for _, mask := range [][]byte{nil, {0}, {255}, {1}, {128}, {0, 0, 0, 0, 0, 0, 0, 0, 0, 0, 0, 1}, append(make([]byte, 11), append([]byte{7}, make([]byte, 244)...)...)} {
		d := made(t, dev(8, 4), nil, fault(3, api.FFail, mask...))
		for n := range 3 {
			program(t, d, 1, laid(t, sheet(uint64(n), 4)))
		}
		was := told(t, d)
		d.Erase(1)
		now := told(t, d)
		var want []api.Table
		for n := range 3 {
			if string(was.pages[4+n]) == string(now.pages[4+n]) {
				want = append(want, sheet(uint64(n), 4))
			}
		}
		if l := mirror.Tables(d, 1); !all(l, want) || d.Next(1) != 4 {
			t.Errorf("mask %d: %v, not %v", mask, l, want)
		}
	}
}

// P17.1: a region that is marked has no tables.
func TestTablesOfMarkedRegions(t *testing.T) {
	for _, bad := range [][]int{{0}, {1}, {0, 1}} {
		d := made(t, dev(8, 4), bad)
		for region := range 2 {
			if l := mirror.Tables(d, region); len(l) != 0 {
				t.Errorf("bad %d, region %d: %v", bad, region, l)
			}
		}
	}
}
