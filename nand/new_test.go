package nand_test

import (
	"bytes"
	"math"
	"reflect"
	"slices"
	"testing"

	"wagtail/api"
	"wagtail/geom"
	"wagtail/nand"
)

// P14.1: a new device has its sides, blocks that were never erased, and blank pages alone; no operation was begun, and it is up.
func TestNew(t *testing.T) {
	for _, g := range few() {
		d := made(t, g, nil)
		if d.Sides() != g || d.Ops() != 0 || d.Down() {
			t.Errorf("New(%d): sides %d, %d operations, down %t", g, d.Sides(), d.Ops(), d.Down())
		}
		for b := range g.Blocks {
			if d.Marked(b) || d.Next(b) != 0 || d.Wear(b) != 0 {
				t.Errorf("New(%d): block %d is marked %t, next page %d, wear %d", g, b, d.Marked(b), d.Next(b), d.Wear(b))
			}
			for p := range g.Pages {
				if got := read(t, d, at(b, p)); !bytes.Equal(got, blank()) {
					t.Errorf("New(%d): page %d of block %d is %d", g, p, b, got)
				}
			}
		}
	}
}

// P14.1: all sides that may be have a device.
func TestNewOfAllSides(t *testing.T) {
	for blocks := 8; blocks <= 34; blocks++ {
		for pages := 4; pages <= 32; pages++ {
			g := dev(blocks, pages, (blocks+pages)%9)
			d := made(t, g, nil)
			_, last := d.Read(at(blocks-1, pages-1))
			_, block := d.Read(at(blocks, 0))
			_, page := d.Read(at(0, pages))
			if d.Sides() != g || last != api.OK || block != api.ErrRange || page != api.ErrRange {
				t.Errorf("New(%d): sides %d, errors %d %d %d", g, d.Sides(), last, block, page)
			}
		}
	}
}

// P14.1, R2: sides that may not be have no device, whatever else is handed in.
func TestNewOfSidesThatMayNotBe(t *testing.T) {
	for _, g := range few() {
		for _, n := range ints() {
			for _, x := range []api.Geom{dev(n, g.Pages, g.Reserve), dev(g.Blocks, n, g.Reserve), dev(g.Blocks, g.Pages, n), dev(n, n, n)} {
				if geom.Check(x) == api.OK {
					continue
				}
				for _, bad := range [][]int{nil, {2, -1, 99}} {
					if d, e := nand.New(x, bad, []api.Fault{fault(0, api.FCut, 255)}); d != nil || e != api.ErrRange {
						t.Errorf("New(%d, %d): %v, error %d", x, bad, d, e)
					}
				}
			}
		}
	}
	for _, x := range []api.Geom{dev(7, 8, 2), dev(35, 8, 2), dev(16, 3, 2), dev(16, 33, 2), dev(16, 8, -1), dev(16, 8, 9), dev(0, 0, 0)} {
		if d, e := nand.New(x, nil, nil); d != nil || e != api.ErrRange {
			t.Errorf("New(%d): %v, error %d", x, d, e)
		}
	}
}

// lists are lists of blocks that are bad, or of numbers that are none, in any order, once and more.
func lists(g api.Geom) [][]int {
	l := [][]int{nil, {}, {0}, {1}, {0, 1}, {2}, {2, 2, 2}, {5, 2, 5}, {g.Blocks - 1}, {g.Blocks}, {g.Blocks + 1}, {-1}, {-2}, {math.MinInt}, {math.MaxInt}, {-1, 3, g.Blocks}, ints()}
	var all []int
	for b := range g.Blocks {
		all = append(all, b)
	}
	back := slices.Clone(all)
	slices.Reverse(back)
	return append(l, all, all[1:], back, slices.Concat(all[3:], back[3:]))
}

// P14.1: Marked tells of a block whether it was bad from the first, and of none that it was not.
func TestMarked(t *testing.T) {
	for _, g := range few() {
		for _, bad := range lists(g) {
			d := made(t, g, bad)
			for _, b := range slices.Concat(ints(), []int{g.Blocks - 1, g.Blocks, g.Blocks + 1}) {
				want := slices.Contains(bad, b) && b >= 0 && b < g.Blocks
				if got := d.Marked(b); got != want {
					t.Errorf("New(%d, %d): Marked(%d) = %t", g, bad, b, got)
				}
			}
			if d.Ops() != 0 || d.Down() || d.Sides() != g {
				t.Errorf("New(%d, %d): %d operations, down %t, sides %d", g, bad, d.Ops(), d.Down(), d.Sides())
			}
		}
	}
}

// P14.1: a block that failed is not marked, and one that is marked stays so, and is as it was.
func TestMarkedStays(t *testing.T) {
	d := made(t, dev(8, 4, 1), []int{3}, fault(0, api.FFail, 255), fault(1, api.FFail, 255))
	d.Program(at(2, 0), row(1))
	d.Erase(4)
	d.Erase(3)
	d.Program(at(3, 0), row(1))
	for b := range 8 {
		if got := d.Marked(b); got != (b == 3) {
			t.Errorf("Marked(%d) = %t", b, got)
		}
	}
	if d.Next(3) != 0 || d.Wear(3) != 0 || d.Ops() != 2 {
		t.Errorf("block 3: next page %d, wear %d, behind %d operations", d.Next(3), d.Wear(3), d.Ops())
	}
}

// P14.1: Next and Wear tell of each block what was done with it, and 0 of none.
func TestNextAndWear(t *testing.T) {
	for _, g := range few() {
		d := made(t, g, nil)
		ops := 0
		for b := range g.Blocks {
			for range b%3 + 1 {
				if e := d.Erase(b); e != api.OK {
					t.Fatalf("Erase(%d): error %d", b, e)
				}
			}
			fill(t, d, b, b%(g.Pages+1))
			ops += b%3 + 1 + b%(g.Pages+1)
		}
		for b := range g.Blocks {
			if d.Next(b) != b%(g.Pages+1) || d.Wear(b) != b%3+1 {
				t.Errorf("block %d of %d: next page %d, wear %d", b, g, d.Next(b), d.Wear(b))
			}
		}
		if d.Ops() != ops {
			t.Errorf("%d operations, not %d", d.Ops(), ops)
		}
		for _, b := range slices.Concat(ints(), []int{g.Blocks, g.Blocks + 1}) {
			if b >= 0 && b < g.Blocks {
				continue
			}
			if d.Next(b) != 0 || d.Wear(b) != 0 || d.Marked(b) {
				t.Errorf("block %d of %d: next page %d, wear %d, marked %t", b, g, d.Next(b), d.Wear(b), d.Marked(b))
			}
		}
	}
}

// P14.1: Power of a device that is up turns nothing; of one that is down, just that.
func TestPower(t *testing.T) {
	d := made(t, dev(8, 4, 1), []int{5}, fault(3, api.FCut, 15))
	fill(t, d, 2, 3)
	was := told(d)
	d.Power()
	d.Power()
	if now := told(d); !reflect.DeepEqual(was, now) {
		t.Errorf("Power: %v became %v", was, now)
	}
	if e := d.Program(at(2, 3), row(9)); e != api.ErrDown || !d.Down() {
		t.Fatalf("error %d, down %t", e, d.Down())
	}
	next, wear, ops := d.Next(2), d.Wear(2), d.Ops()
	d.Power()
	if d.Down() || d.Next(2) != next || d.Wear(2) != wear || d.Ops() != ops || !d.Marked(5) || d.Sides() != dev(8, 4, 1) {
		t.Errorf("Power: down %t, next page %d, wear %d, %d operations", d.Down(), d.Next(2), d.Wear(2), d.Ops())
	}
	if got := read(t, d, at(2, 3)); !bytes.Equal(got, programmed(blank(), row(9), []byte{15})) {
		t.Errorf("Power: the page is %d", got)
	}
}

// P14.1 to P14.4, R1: of a device that is nil all that is read or done is ErrNil, and all that is looked at is zero.
func TestNil(t *testing.T) {
	var d *nand.Device
	d.Power()
	for _, n := range ints() {
		if d.Marked(n) || d.Next(n) != 0 || d.Wear(n) != 0 {
			t.Errorf("block %d of nil: marked %t, next page %d, wear %d", n, d.Marked(n), d.Next(n), d.Wear(n))
		}
		for _, p := range []api.Place{at(n, n), at(0, n), at(n, 0)} {
			if b, e := d.Read(p); b != nil || e != api.ErrNil {
				t.Errorf("Read(%d) of nil: %d, error %d", p, b, e)
			}
			for _, b := range [][]byte{nil, {}, {1}, row(1)} {
				if e := d.Program(p, b); e != api.ErrNil {
					t.Errorf("Program(%d) of nil: error %d", p, e)
				}
			}
		}
		if e := d.Erase(n); e != api.ErrNil {
			t.Errorf("Erase(%d) of nil: error %d", n, e)
		}
	}
	if d.Ops() != 0 || d.Down() || d.Sides() != dev(0, 0, 0) {
		t.Errorf("nil: %d operations, down %t, sides %d", d.Ops(), d.Down(), d.Sides())
	}
}
