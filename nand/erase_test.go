package nand_test

import (
	"bytes"
	"reflect"
	"testing"

	"wagtail/api"
	"wagtail/nand"
)

// tryErase asks a device to erase a block.
func tryErase(block int) func(d *nand.Device) api.Errno {
	return func(d *nand.Device) api.Errno {
		return d.Erase(block)
	}
}

// P14.4: Erase makes all pages of a block blank, and the first one the next; all else stays.
func TestErase(t *testing.T) {
	for _, g := range few() {
		d := made(t, g, nil)
		for _, b := range []int{0, 1, 4, g.Blocks - 1} {
			fill(t, d, b, g.Pages)
		}
		for _, b := range []int{0, 4, g.Blocks - 1} {
			was := told(d)
			if e := d.Erase(b); e != api.OK {
				t.Fatalf("Erase(%d) of %d: error %d", b, g, e)
			}
			now := told(d)
			was.ops++
			was.next[b+2], was.wear[b+2] = 0, 1
			for p := range g.Pages {
				was.pages[(b+2)*g.Pages+p] = blank()
			}
			if !reflect.DeepEqual(was, now) {
				t.Errorf("Erase(%d) of %d turned something else, or not all", b, g)
			}
		}
	}
}

// P14.4: a block that is blank, or full in part, is erased likewise, again and again, and programmed again from its first page on.
func TestEraseAgain(t *testing.T) {
	d := made(t, dev(8, 4, 0), nil)
	for i := range 10 {
		if d.Wear(5) != i || d.Next(5) != 0 {
			t.Errorf("round %d: wear %d, next page %d", i, d.Wear(5), d.Next(5))
		}
		fill(t, d, 5, i%5)
		if e := d.Erase(5); e != api.OK {
			t.Errorf("round %d: error %d", i, e)
		}
		for p := range 4 {
			if got := read(t, d, at(5, p)); !bytes.Equal(got, blank()) {
				t.Errorf("round %d: page %d is %d", i, p, got)
			}
		}
	}
	if d.Wear(4) != 0 || d.Wear(6) != 0 || d.Ops() != 10+2*(1+2+3+4) {
		t.Errorf("wear %d and %d beside it, %d operations", d.Wear(4), d.Wear(6), d.Ops())
	}
}

// P14.4: Erase of no block is ErrRange, and of a marked one ErrBad; neither is an operation.
func TestEraseRefused(t *testing.T) {
	for _, n := range ints() {
		if n < 0 || n >= 8 {
			refused(t, "no block", api.ErrRange, []int{3, n}, tryErase(n))
		}
	}
	for _, b := range []int{0, 1, 3, 7} {
		refused(t, "marked", api.ErrBad, []int{7, 3, 1, 0, 1}, tryErase(b))
	}
	for _, g := range few() {
		d := made(t, g, nil)
		if e := d.Erase(g.Blocks); e != api.ErrRange || d.Ops() != 0 {
			t.Errorf("Erase(%d) of %d: error %d", g.Blocks, g, e)
		}
		if e := d.Erase(g.Blocks - 1); e != api.OK || d.Ops() != 1 {
			t.Errorf("Erase(%d) of %d: error %d", g.Blocks-1, g, e)
		}
	}
}

// P14.4: with a fault each page is erased as the mask says, from the mask's first byte on, no page is next, and the erase was begun.
func TestEraseWithFault(t *testing.T) {
	g := dev(8, 4, 1)
	for _, kind := range []int{api.FFail, api.FCut} {
		for _, m := range masks() {
			for _, many := range []int{0, 2, 4} {
				d := made(t, g, nil, api.Fault{At: many + 1, Kind: kind, Mask: m})
				fill(t, d, 3, 1)
				fill(t, d, 2, many)
				was := told(d)
				e := d.Erase(2)
				down := d.Down()
				d.Power()
				now := told(d)
				if kind == api.FFail && (e != api.ErrFail || down) || kind == api.FCut && (e != api.ErrDown || !down) {
					t.Errorf("kind %d: error %d, down %t", kind, e, down)
				}
				was.ops, was.next[4], was.wear[4] = many+2, g.Pages, 1
				for p := range g.Pages {
					was.pages[4*4+p] = erased(was.pages[4*4+p], m)
				}
				if !reflect.DeepEqual(was, now) {
					t.Errorf("kind %d, mask %d: the pages are %d", kind, m, now.pages[4*4:5*4])
				}
			}
		}
	}
}

// P14.3, P14.4: behind an erase with a fault no page is programmed, even where all is blank, till an erase goes well.
func TestEraseBehindFault(t *testing.T) {
	for _, g := range few() {
		for _, m := range masks() {
			d := made(t, g, nil, api.Fault{At: 0, Kind: api.FFail, Mask: m}, api.Fault{At: 1, Kind: api.FCut, Mask: m})
			for i, want := range []api.Errno{api.ErrFail, api.ErrDown} {
				if e := d.Erase(2); e != want || d.Next(2) != g.Pages || d.Wear(2) != i+1 {
					t.Errorf("error %d, next page %d, wear %d", e, d.Next(2), d.Wear(2))
				}
				d.Power()
				for p := range g.Pages {
					if e := d.Program(at(2, p), row(1)); e != api.ErrOrder {
						t.Errorf("Program of page %d: error %d", p, e)
					}
				}
			}
			if e := d.Program(at(2, g.Pages), row(1)); e != api.ErrRange {
				t.Errorf("Program of a page that there is not: error %d", e)
			}
			if e := d.Erase(2); e != api.OK || d.Next(2) != 0 || d.Wear(2) != 3 || d.Ops() != 3 {
				t.Errorf("error %d, next page %d, wear %d, %d operations", e, d.Next(2), d.Wear(2), d.Ops())
			}
			fill(t, d, 2, g.Pages)
		}
	}
}
