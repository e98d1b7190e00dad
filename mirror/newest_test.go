package mirror_test

import (
	"testing"

	"wagtail/api"
)

// P17.1: Newest of a device that is nil, or down.
func TestNewestOfNoDevice(t *testing.T) {
	none(t, nil, api.ErrNil)
	d := dark(t)
	none(t, d, api.ErrDown)
	d.Power()
	newest(t, d, sheet(1, 1), 1)
}

// P17.1: Newest is ErrNone where no region has a table, of whichever sides, whatever is marked, and whatever is on other blocks.
func TestNewestOfNone(t *testing.T) {
	for _, g := range sides() {
		for _, bad := range [][]int{nil, {0}, {1}, {0, 1}, {5}} {
			none(t, made(t, g, bad), api.ErrNone)
		}
		d := made(t, g, nil)
		for b := 2; b < g.Blocks; b++ {
			program(t, d, b, laid(t, sheet(7, b)))
		}
		none(t, d, api.ErrNone)
	}
}

// P17.1: Newest is that of one region alone, where the other one has none, or is marked.
func TestNewestOfOneRegion(t *testing.T) {
	for _, g := range sides() {
		for region := range 2 {
			for _, bad := range [][]int{nil, {1 - region}} {
				for _, seq := range []uint64{0, 1, 1<<31 - 1} {
					d := made(t, g, bad)
					program(t, d, region, laid(t, sheet(seq, 3)))
					newest(t, d, sheet(seq, 3), region)
				}
			}
		}
	}
}

// ranks are all rows of up to three Seqs below three.
func ranks() [][]uint64 {
	l := [][]uint64{nil}
	for i := 0; i < len(l); i++ {
		for seq := range uint64(3) {
			if len(l[i]) < 3 {
				l = append(l, append(append([]uint64{}, l[i]...), seq))
			}
		}
	}
	return l
}

// P17.1: Newest is the table of the greatest Seq: of one Seq in both regions that of region 0, in one region that of the last page.
func TestNewestOfBoth(t *testing.T) {
	for i, first := range ranks() {
		for k, second := range ranks() {
			d := made(t, dev(8, 4), nil)
			var want api.Table
			in := -1
			// Tables of one Seq are told apart by their marks.
			for n, seq := range first {
				program(t, d, 0, laid(t, sheet(seq, 10+n)))
				if in < 0 || seq >= want.Seq {
					want, in = sheet(seq, 10+n), 0
				}
			}
			for n, seq := range second {
				program(t, d, 1, laid(t, sheet(seq, 20+n)))
				if in < 0 || seq > want.Seq || in == 1 && seq == want.Seq {
					want, in = sheet(seq, 20+n), 1
				}
			}
			if in < 0 {
				none(t, d, api.ErrNone)
				continue
			}
			if newest(t, d, want, in); t.Failed() {
				t.Fatalf("Seqs %d, %d (%d, %d)", first, second, i, k)
			}
		}
	}
}

// P17.1: Seqs are held against each other in their whole range.
func TestNewestOfGreatSeqs(t *testing.T) {
	l := []uint64{0, 1, 255, 256, 65535, 65536, 1<<30 - 1, 1 << 30, 1<<31 - 2, 1<<31 - 1}
	for i, low := range l {
		for _, high := range l[i+1:] {
			for region := range 2 {
				d := made(t, dev(8, 4), nil)
				program(t, d, region, laid(t, sheet(high, 1)))
				program(t, d, 1-region, laid(t, sheet(low, 2)))
				newest(t, d, sheet(high, 1), region)
				program(t, d, region, laid(t, sheet(low, 3)))
				newest(t, d, sheet(high, 1), region)
			}
		}
	}
}

// P17.1: pages that are no tables, of whatever Seq, count for nothing, wherever they are.
func TestNewestAmongOtherPages(t *testing.T) {
	for _, b := range append(append(torn(t), others(t)...), blank()) {
		for region := range 2 {
			d := made(t, dev(8, 4), nil)
			program(t, d, 0, b)
			program(t, d, 1, b)
			program(t, d, region, laid(t, sheet(5, 1)))
			program(t, d, region, b)
			newest(t, d, sheet(5, 1), region)
			program(t, d, 1-region, laid(t, sheet(4, 2)))
			newest(t, d, sheet(5, 1), region)
		}
	}
}

// P17.1: the last page of a region counts as each other.
func TestNewestOfTheLastPage(t *testing.T) {
	for _, g := range sides() {
		d := made(t, g, nil)
		for p := range g.Pages {
			program(t, d, 1, laid(t, sheet(uint64(p), p)))
			newest(t, d, sheet(uint64(p), p), 1)
		}
		for p := range g.Pages {
			program(t, d, 0, laid(t, sheet(uint64(p), 50+p)))
		}
		newest(t, d, sheet(uint64(g.Pages-1), 50+g.Pages-1), 0)
	}
}
