package nand_test

import (
	"testing"

	"wagtail/api"
	"wagtail/nand"
	"wagtail/zeros"
)

// dice are numbers from a rule, others of each seed.
type dice uint32

// below is the next number, from 0 on, below n.
func (x *dice) below(n int) int {
	*x = *x*1664525 + 1013904223
	return int(*x>>8) % n
}

// troubles are faults of all masks, at most of so many operations.
func troubles(x *dice, many int) []api.Fault {
	var l []api.Fault
	all := masks()
	for i := range many {
		if x.below(3) > 0 {
			l = append(l, api.Fault{At: i, Kind: 1 + x.below(2), Mask: all[x.below(len(all))]})
		}
	}
	return l
}

// covered tells whether each page that was programmed since its block was erased covers what was to be programmed.
func covered(t *testing.T, d *nand.Device, meant map[api.Place][]byte) {
	t.Helper()
	for p, b := range meant {
		if got := read(t, d, p); !zeros.Covers(got, b) {
			t.Fatalf("page %d of block %d is %d, and does not cover %d", p.Page, p.Block, got, b)
		}
	}
}

// P14.5: whatever goes wrong, in whatever order, a page that was programmed since its block was erased covers what was to be programmed.
func TestOneWay(t *testing.T) {
	g := dev(8, 4, 1)
	for seed := range 40 {
		x := dice(seed)
		d := made(t, g, nil, troubles(&x, 300)...)
		meant := make(map[api.Place][]byte)
		for i := range 300 {
			block := x.below(3)
			p := at(block, d.Next(block))
			if p.Page < g.Pages && x.below(6) > 0 {
				meant[p] = row(seed*1000 + i)
				d.Program(p, meant[p])
			} else if d.Erase(block) == api.OK {
				for page := range g.Pages {
					delete(meant, at(block, page))
				}
			}
			d.Power()
			covered(t, d, meant)
		}
		if d.Ops() != 300 {
			t.Errorf("%d operations", d.Ops())
		}
	}
}

// P14.5: one program by each mask, and erases in part by each mask behind it.
func TestOneWayBehindEachMask(t *testing.T) {
	for _, first := range masks() {
		for _, second := range masks() {
			d := made(t, dev(8, 4, 1), nil, api.Fault{At: 0, Kind: api.FCut, Mask: first}, api.Fault{At: 2, Kind: api.FFail, Mask: second}, api.Fault{At: 3, Kind: api.FFail, Mask: first})
			meant := map[api.Place][]byte{at(2, 0): row(1), at(2, 1): row(2)}
			d.Program(at(2, 0), row(1))
			d.Power()
			d.Program(at(2, 1), row(2))
			covered(t, d, meant)
			for range 2 {
				if e := d.Erase(2); e != api.ErrFail {
					t.Errorf("error %d", e)
				}
				covered(t, d, meant)
			}
		}
	}
}
