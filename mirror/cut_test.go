package mirror_test

import (
	"bytes"
	"slices"
	"testing"

	"wagtail/api"
	"wagtail/mirror"
	"wagtail/nand"
)

// cuts are masks of nothing, of all, and of what is torn at each place: all ahead of it, all behind it, it alone, all but it.
func cuts() [][]byte {
	l := [][]byte{nil, make([]byte, api.PageSize), blank()}
	for i := range api.PageSize {
		ahead := slices.Concat(bytes.Repeat([]byte{255}, i), make([]byte, api.PageSize-i))
		alone := make([]byte, api.PageSize)
		alone[i] = 255
		for _, m := range [][]byte{ahead, alone} {
			other := slices.Clone(m)
			for k := range other {
				other[k] = ^other[k]
			}
			l = append(l, m, other)
		}
	}
	return l
}

// bits are masks of each bit of a byte, and of bits of some bytes alone.
func bits() [][]byte {
	var l [][]byte
	for i := range 8 {
		one := byte(1) << i
		l = append(l, []byte{one}, []byte{^one}, []byte{one, 0}, append(make([]byte, 11), one), append(make([]byte, 23), ^one))
		l = append(l, append(make([]byte, 251), one), append(make([]byte, 255), one), append(make([]byte, 255), ^one))
	}
	return l
}

// scene is how many tables there are on a device of four pages a block, and how many operations the next Write is, and was made of.
type scene struct {
	tables, ops, steps int
}

// scenes are all that matter: no table, one, both regions with room, and each of them full.
func scenes() []scene {
	return []scene{{0, 0, 1}, {1, 1, 1}, {2, 2, 1}, {7, 7, 1}, {8, 8, 2}, {9, 10, 2}, {10, 12, 1}}
}

// before holds that Newest is the last table of a scene.
func before(t *testing.T, d *nand.Device, s scene) {
	t.Helper()
	if s.tables == 0 {
		none(t, d, api.ErrNone)
		return
	}
	newest(t, d, sheet(uint64(s.tables-1), s.tables-1), (s.tables+1)%2)
}

// done tells whether a table is on a page of a device, byte for byte.
func done(t *testing.T, d *nand.Device, x api.Table) bool {
	b := laid(t, x)
	return slices.ContainsFunc(told(t, d).pages, func(leaf []byte) bool { return bytes.Equal(leaf, b) })
}

// P17.4: wherever a Write is cut, and wherever it is torn: behind it the newest table is the one written, if all of its page is there, else the one that was; and the next Write goes well.
func TestCuts(t *testing.T) {
	for _, s := range scenes() {
		for step := range s.steps {
			for _, mask := range append(cuts(), bits()...) {
				f := fault(s.ops+step, api.FCut, mask...)
				d := upTo(t, dev(8, 4), s.tables, f)
				x := sheet(uint64(s.tables), 40)
				if e := held(t, d, x, f); e != api.ErrDown {
					t.Fatalf("%v, step %d, mask %d: error %d", s, step, mask, e)
				}
				if done(t, d, x) {
					newest(t, d, x, s.tables%2)
				} else {
					before(t, d, s)
				}
				y := sheet(uint64(s.tables)+1, 41)
				if e := held(t, d, y); e != api.OK {
					t.Fatalf("%v, step %d, mask %d: then error %d", s, step, mask, e)
				}
				if z, _, e := mirror.Newest(d); e != api.OK || !alike(z, y) {
					t.Fatalf("%v, step %d, mask %d: then %v, error %d", s, step, mask, z, e)
				}
			}
		}
	}
}

// P17.4: where no bit was done, the newest table is the one that was, whichever operation was cut, or failed; where all of the page was, it is the one written.
func TestNoBitDone(t *testing.T) {
	for _, s := range scenes() {
		for step := range s.steps {
			for _, kind := range []int{api.FFail, api.FCut} {
				for _, mask := range [][]byte{nil, {0}, make([]byte, 256)} {
					d := upTo(t, dev(8, 4), s.tables, fault(s.ops+step, kind, mask...))
					if e := mirror.Write(d, sheet(uint64(s.tables), 40)); e == api.OK {
						t.Fatalf("%v, step %d: no error", s, step)
					}
					d.Power()
					before(t, d, s)
				}
				d := upTo(t, dev(8, 4), s.tables, fault(s.ops+step, kind, 255))
				mirror.Write(d, sheet(uint64(s.tables), 40))
				d.Power()
				if step == s.steps-1 {
					newest(t, d, sheet(uint64(s.tables), 40), s.tables%2)
				} else {
					before(t, d, s)
				}
			}
		}
	}
}

// P17.4: a Write that is refused, as its region is marked, or its table may not be, leaves the newest one as it was.
func TestRefusedWriteLeavesTheNewest(t *testing.T) {
	for region := range 2 {
		d := made(t, dev(8, 4), []int{1 - region})
		program(t, d, region, laid(t, sheet(3, 3)))
		for _, x := range append(wrong(), sheet(4, 4)) {
			if e := mirror.Write(d, x); e == api.OK {
				t.Fatalf("Write(%v): no error", x)
			}
			newest(t, d, sheet(3, 3), region)
		}
	}
}

// P17.4: a Format that is cut, wherever it is torn, leaves its table there, or none; the next one tells it.
func TestFormatCut(t *testing.T) {
	first := api.Table{Wear: make([]int, 8)}
	for n := range 5 {
		for step := range 1 + n/4 {
			for _, mask := range append(cuts(), bits()...) {
				f := fault(n+step, api.FCut, mask...)
				d := made(t, dev(8, 4), nil, f)
				for range n {
					program(t, d, 0, make([]byte, 256))
				}
				if e := heldFormat(t, d, f); e != api.ErrDown {
					t.Fatalf("behind %d pages, step %d, mask %d: error %d", n, step, mask, e)
				}
				if done(t, d, first) {
					newest(t, d, first, 0)
				} else {
					none(t, d, api.ErrNone)
				}
				if e := heldFormat(t, d); e != api.OK {
					t.Fatalf("behind %d pages, step %d, mask %d: then error %d", n, step, mask, e)
				}
				newest(t, d, first, 0)
			}
		}
	}
}

// P17.4: of Writes of rising Seqs, of which any is cut, or fails, again and again, one of both is always there: the one just written, or the newest ahead of it.
func TestCutsAgainAndAgain(t *testing.T) {
	for seed := range 40 {
		x := dice(seed + 4000)
		d := made(t, dev(8, 4+x.below(3)), nil, x.faults(400)...)
		was, at := api.Table{}, -1
		for n := range 150 {
			y := sheet(uint64(n), x.below(1000))
			ops := d.Ops()
			e := mirror.Write(d, y)
			d.Power()
			z, region, err := mirror.Newest(d)
			switch {
			case err == api.OK && alike(z, y):
				if region == at {
					t.Fatalf("seed %d, table %d: it stands in region %d, as the one ahead of it", seed, n, region)
				}
				was, at = y, region
			case e == api.OK:
				t.Fatalf("seed %d, table %d: written, but Newest is %v, error %d", seed, n, z, err)
			case at < 0 && err != api.ErrNone || at >= 0 && (err != api.OK || !alike(z, was) || region != at):
				t.Fatalf("seed %d, table %d: error %d, and Newest is %v, error %d, not %v", seed, n, e, z, err, was)
			}
			if d.Ops() == ops || d.Ops() > ops+2 {
				t.Fatalf("seed %d, table %d: %d operations", seed, n, d.Ops()-ops)
			}
		}
	}
}
