package nand_test

import (
	"bytes"
	"math"
	"slices"
	"testing"

	"wagtail/api"
	"wagtail/nand"
)

// errors are what a device answers to so many programs and erases, block by block in turn, the power being brought back behind each.
func errors(d *nand.Device, many int) []api.Errno {
	var l []api.Errno
	for i := range many {
		block := i % d.Sides().Blocks
		if d.Next(block) < d.Sides().Pages && i%3 < 2 {
			l = append(l, d.Program(at(block, d.Next(block)), row(i)))
		} else {
			l = append(l, d.Erase(block))
		}
		d.Power()
	}
	return l
}

// wanted are errors of which all are OK, but those that are named.
func wanted(many int, named map[int]api.Errno) []api.Errno {
	l := make([]api.Errno, many)
	for i, e := range named {
		l[i] = e
	}
	return l
}

// P14.1, P14.3, P14.4: a fault holds of the operation of its number alone: the first one, later ones, or one that is never begun.
func TestFaultsAt(t *testing.T) {
	const many = 60
	for _, n := range ints() {
		for kind, e := range map[int]api.Errno{api.FFail: api.ErrFail, api.FCut: api.ErrDown} {
			d := made(t, dev(8, 4, 1), nil, fault(n, kind, 85))
			want := wanted(many, nil)
			if n >= 0 && n < many {
				want[n] = e
			}
			if got := errors(d, many); !slices.Equal(got, want) || d.Ops() != many {
				t.Errorf("kind %d at %d: errors %d, %d operations", kind, n, got, d.Ops())
			}
		}
	}
}

// P14.3, P14.4: faults of many operations stand in any order.
func TestFaultsInAnyOrder(t *testing.T) {
	l := []api.Fault{fault(7, api.FCut, 1), fault(0, api.FFail, 2), fault(30, api.FFail), fault(1, api.FCut), fault(8, api.FFail, 3), fault(29, api.FCut, 255)}
	want := wanted(40, map[int]api.Errno{0: api.ErrFail, 1: api.ErrDown, 7: api.ErrDown, 8: api.ErrFail, 29: api.ErrDown, 30: api.ErrFail})
	for range len(l) {
		l = append(l[1:], l[0])
		if got := errors(made(t, dev(8, 4, 1), nil, l...), 40); !slices.Equal(got, want) {
			t.Errorf("%v: errors %d", l, got)
		}
		back := slices.Clone(l)
		slices.Reverse(back)
		if got := errors(made(t, dev(8, 4, 1), nil, back...), 40); !slices.Equal(got, want) {
			t.Errorf("%v: errors %d", back, got)
		}
	}
}

// P14.3, P14.4: faults at each operation: each one fails.
func TestFaultsAtEach(t *testing.T) {
	var l []api.Fault
	want := wanted(50, nil)
	for i := range 50 {
		l = append(l, fault(i, 1+i%2, byte(i)))
		want[i] = []api.Errno{api.ErrFail, api.ErrDown}[i%2]
	}
	if got := errors(made(t, dev(8, 4, 1), nil, l...), 50); !slices.Equal(got, want) {
		t.Errorf("errors %d", got)
	}
}

// P14.3, P14.4: a fault of another Kind, or of an At below 0, is none, of whichever place in the list.
func TestFaultsThatAreNone(t *testing.T) {
	for _, kind := range []int{0, -1, 3, 4, 5, 257, 258, 1<<32 + 1, 1<<32 + 2, math.MinInt, math.MaxInt} {
		d := made(t, dev(8, 4, 1), nil, fault(0, kind, 0), fault(3, kind, 0), fault(-1, api.FCut, 0))
		if got := errors(d, 7); !slices.Equal(got, wanted(7, nil)) {
			t.Errorf("kind %d: errors %d", kind, got)
		}
		for _, b := range []int{0, 3} {
			if got := read(t, d, at(b, 0)); !bytes.Equal(got, row(b)) {
				t.Errorf("kind %d: the page of block %d is %d", kind, b, got)
			}
		}
	}
}

// P14.3: of two faults of one At the first counts, whose Kind is FFail or FCut: how it ends, and its mask.
func TestFaultsOfOneAt(t *testing.T) {
	other, fails, cuts := fault(1, 3, 1), fault(1, api.FFail, 15), fault(1, api.FCut, 240)
	zero, far, below := fault(1, 0, 255), fault(5, api.FCut, 2), fault(-1, api.FFail, 4)
	for _, c := range []struct {
		l    []api.Fault
		e    api.Errno
		mask byte
	}{
		{[]api.Fault{fails, cuts}, api.ErrFail, 15},
		{[]api.Fault{cuts, fails}, api.ErrDown, 240},
		{[]api.Fault{other, fails, cuts}, api.ErrFail, 15},
		{[]api.Fault{other, cuts, fails}, api.ErrDown, 240},
		{[]api.Fault{zero, other, cuts, other, fails}, api.ErrDown, 240},
		{[]api.Fault{fails, other}, api.ErrFail, 15},
		{[]api.Fault{far, cuts, zero, fails, far}, api.ErrDown, 240},
		{[]api.Fault{fails, fault(1, api.FFail, 3)}, api.ErrFail, 15},
		{[]api.Fault{below, cuts, below, fails}, api.ErrDown, 240},
		{[]api.Fault{far, below, below, fails, cuts}, api.ErrFail, 15},
		{[]api.Fault{fault(1, api.FCut), cuts}, api.ErrDown, 0},
		{[]api.Fault{other, zero, far}, api.OK, 255},
	} {
		d := made(t, dev(8, 4, 1), nil, c.l...)
		fill(t, d, 6, 1)
		e := d.Program(at(6, 1), make([]byte, api.PageSize))
		d.Power()
		if got := read(t, d, at(6, 1)); e != c.e || !bytes.Equal(got, slices.Repeat([]byte{255 - c.mask}, api.PageSize)) {
			t.Errorf("%v: error %d, the page is %d", c.l, e, got[:4])
		}
	}
}

// P14.3, P14.4: no faults, told as nil or as none, are none.
func TestNoFaults(t *testing.T) {
	for _, l := range [][]api.Fault{nil, {}, make([]api.Fault, 0, 9)} {
		if got := errors(made(t, dev(34, 32, 0), nil, l...), 400); !slices.Equal(got, wanted(400, nil)) {
			t.Errorf("errors %d", got)
		}
	}
}

// P14.1: what is refused is no operation, so a fault waits for the next one that is begun.
func TestFaultWaits(t *testing.T) {
	d := made(t, dev(8, 4, 1), []int{3}, fault(0, api.FCut, 255), fault(1, api.FFail, 255))
	refusals := func() {
		d.Read(at(2, 0))
		d.Read(at(9, 0))
		d.Program(at(6, 1), row(1))
		d.Program(at(6, 0), row(1)[1:])
		d.Program(at(3, 0), row(1))
		d.Program(at(2, 4), row(1))
		d.Erase(3)
		d.Erase(8)
		d.Erase(-1)
	}
	for i, want := range []api.Errno{api.ErrDown, api.ErrFail, api.OK} {
		refusals()
		if d.Ops() != i {
			t.Errorf("%d operations, not %d", d.Ops(), i)
		}
		if e := d.Program(at(2, i), row(1)); e != want {
			t.Errorf("operation %d: error %d, not %d", i, e, want)
		}
		refusals()
		d.Power()
	}
}
