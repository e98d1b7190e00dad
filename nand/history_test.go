package nand_test

import (
	"bytes"
	"slices"
	"testing"

	"wagtail/api"
	"wagtail/nand"
)

// deed is an operation that was begun: a program of bytes, or, of none, an erase; how it ended, and by which mask.
type deed struct {
	at   api.Place
	b    []byte
	e    api.Errno
	mask []byte
}

// history is what a device was made of, and what was done with it; all that the device is to tell is worked out of that, each time anew.
type history struct {
	g      api.Geom
	bad    []int
	faults []api.Fault
	deeds  []deed
	down   bool
}

// of are the operations of a block.
func (h *history) of(block int) []deed {
	var l []deed
	for _, x := range h.deeds {
		if x.at.Block == block {
			l = append(l, x)
		}
	}
	return l
}

// wear is how many of a block's operations are erases.
func (h *history) wear(block int) int {
	n := 0
	for _, x := range h.of(block) {
		if x.b == nil {
			n++
		}
	}
	return n
}

// next is how many programs there were behind a block's last erase; all pages, if that did not go well.
func (h *history) next(block int) int {
	n := 0
	for _, x := range slices.Backward(h.of(block)) {
		if x.b == nil && x.e != api.OK {
			return h.g.Pages
		}
		if x.b == nil {
			break
		}
		n++
	}
	return n
}

// page is what the operations made of a page, from the first one on.
func (h *history) page(p api.Place) []byte {
	b := blank()
	for _, x := range h.of(p.Block) {
		if x.b == nil {
			b = erased(b, x.mask)
		} else if x.at == p {
			b = programmed(b, x.b, x.mask)
		}
	}
	return b
}

// refusal is why an operation is not begun, or OK.
func (h *history) refusal(p api.Place, b []byte) api.Errno {
	switch {
	case h.down:
		return api.ErrDown
	case p.Block < 0 || p.Block >= h.g.Blocks || p.Page < 0 || p.Page >= h.g.Pages || b != nil && len(b) != api.PageSize:
		return api.ErrRange
	case slices.Contains(h.bad, p.Block):
		return api.ErrBad
	case b != nil && p.Page != h.next(p.Block):
		return api.ErrOrder
	}
	return api.OK
}

// do does an operation, if it is not refused, and tells how it ends.
func (h *history) do(p api.Place, b []byte) api.Errno {
	if e := h.refusal(p, b); e != api.OK {
		return e
	}
	done := deed{p, b, api.OK, []byte{255}}
	for _, f := range slices.Backward(h.faults) {
		if f.At == len(h.deeds) && f.Kind == api.FFail {
			done.e, done.mask = api.ErrFail, f.Mask
		}
		if f.At == len(h.deeds) && f.Kind == api.FCut {
			done.e, done.mask = api.ErrDown, f.Mask
		}
	}
	h.deeds = append(h.deeds, done)
	h.down = done.e == api.ErrDown
	return done.e
}

// same tells whether a device tells what its history says.
func same(t *testing.T, d *nand.Device, h *history) {
	t.Helper()
	if d.Sides() != h.g || d.Ops() != len(h.deeds) || d.Down() != h.down {
		t.Fatalf("sides %d, %d operations, not %d, down %t, not %t", d.Sides(), d.Ops(), len(h.deeds), d.Down(), h.down)
	}
	for b := range h.g.Blocks {
		if d.Next(b) != h.next(b) || d.Wear(b) != h.wear(b) || d.Marked(b) != slices.Contains(h.bad, b) {
			t.Fatalf("block %d: next page %d, not %d, wear %d, not %d, marked %t", b, d.Next(b), h.next(b), d.Wear(b), h.wear(b), d.Marked(b))
		}
		for p := range h.g.Pages {
			got, e := d.Read(at(b, p))
			if h.down && (e != api.ErrDown || got != nil) || !h.down && (e != api.OK || !bytes.Equal(got, h.page(at(b, p)))) {
				t.Fatalf("page %d of block %d is %d, error %d", p, b, got, e)
			}
		}
	}
}

// spot is a place to program or erase: mostly the next page of a block, sometimes any other, or none.
func (h *history) spot(x *dice) api.Place {
	b := x.below(h.g.Blocks)
	switch x.below(8) {
	case 0:
		return at(x.below(h.g.Blocks+4)-2, x.below(h.g.Pages+4)-2)
	case 1:
		return at(b, x.below(h.g.Pages))
	}
	return at(b, h.next(b))
}

// P14.1 to P14.4: whatever is done, in whatever order, a device answers as its history says, and is as it says.
func TestHistory(t *testing.T) {
	sides := []api.Geom{dev(8, 4, 1), dev(9, 5, 0), dev(10, 4, 8)}
	for seed := range 30 {
		x := dice(seed + 1000)
		h := &history{g: sides[seed%len(sides)], bad: []int{x.below(8), x.below(8)}}
		for _, f := range troubles(&x, 200) {
			if x.below(3) == 0 {
				h.faults = append(h.faults, f, fault(f.At, x.below(4), byte(x.below(256))))
			}
		}
		d := made(t, h.g, h.bad, h.faults...)
		for i := range 200 {
			p, b := h.spot(&x), row(i)[:api.PageSize-x.below(16)/15]
			if x.below(5) == 0 {
				p.Page, b = 0, nil
			}
			want := h.do(p, b)
			var got api.Errno
			if b == nil {
				got = d.Erase(p.Block)
			} else {
				got = d.Program(p, b)
			}
			if got != want {
				t.Fatalf("seed %d, step %d, %d bytes at %d: error %d, not %d", seed, i, len(b), p, got, want)
			}
			if i%20 == 0 {
				same(t, d, h)
			}
			if x.below(2) == 0 {
				h.down = false
				d.Power()
			}
		}
		same(t, d, h)
	}
}
