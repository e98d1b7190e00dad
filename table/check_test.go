package table_test

import (
	"math"
	"slices"
	"testing"

	"wagtail/api"
	"wagtail/table"
)

// held holds what Check and Put tell of a table against whether it may be.
func held(t *testing.T, x api.Table) {
	t.Helper()
	want := api.ErrRange
	if mayBe(x) {
		want = api.OK
	}
	if e := table.Check(x); e != want {
		t.Fatalf("Check(%v): error %d, not %d", x, e, want)
	}
	b, e := table.Put(x)
	if e != want || e != api.OK && len(b) != 0 || e == api.OK && len(b) != 256 {
		t.Fatalf("Put(%v): error %d, not %d, %d bytes", x, e, want, len(b))
	}
}

// P16.1: tables that may be, and that may not be, by the tests' own list, not by their rule.
func TestCheck(t *testing.T) {
	for _, x := range many() {
		if e := table.Check(x); e != api.OK {
			t.Errorf("Check(%v): error %d", x, e)
		}
		held(t, x)
	}
	for _, x := range wrong() {
		if e := table.Check(x); e != api.ErrRange {
			t.Errorf("Check(%v): error %d", x, e)
		}
		held(t, x)
	}
}

// P16.1: a Seq is below 2^31.
func TestCheckOfSeq(t *testing.T) {
	for n, want := range map[uint64]api.Errno{0: api.OK, 1<<31 - 1: api.OK, 1 << 31: api.ErrRange, 1 << 32: api.ErrRange, math.MaxUint64: api.ErrRange} {
		if e := table.Check(api.Table{Seq: n}); e != want {
			t.Errorf("Seq %d: error %d, not %d", n, e, want)
		}
	}
	for _, n := range longs() {
		for _, x := range few() {
			x.Seq = n
			held(t, x)
		}
	}
}

// P16.1: Bad are from 0 to 33.
func TestCheckOfEachBad(t *testing.T) {
	for b := -300; b < 300; b++ {
		e := table.Check(api.Table{Bad: []int{b}})
		if (e == api.OK) != (b >= 0 && b <= 33) || e != api.OK && e != api.ErrRange {
			t.Errorf("Bad %d: error %d", b, e)
		}
	}
	for _, b := range ints() {
		for _, l := range [][]int{{b}, {b, 33}, {0, b}, {0, b, 33}, {3, b, 9, 20}} {
			held(t, api.Table{Bad: l})
		}
	}
}

// P16.1: Bad rise: each is above the one ahead of it.
func TestCheckOfBadInOrder(t *testing.T) {
	for a := -2; a < 37; a++ {
		for b := -2; b < 37; b++ {
			want := api.ErrRange
			if a >= 0 && a < b && b < 34 {
				want = api.OK
			}
			if e := table.Check(api.Table{Bad: []int{a, b}}); e != want {
				t.Errorf("Bad %d, %d: error %d, not %d", a, b, e, want)
			}
		}
	}
	for at := range 33 {
		l := row(34)
		l[at], l[at+1] = l[at+1], l[at]
		held(t, api.Table{Bad: l})
		l = row(34)
		l[at] = l[at+1]
		held(t, api.Table{Bad: l})
		held(t, api.Table{Bad: slices.Delete(row(34), at, at+1)})
	}
	falling := row(34)
	slices.Reverse(falling)
	held(t, api.Table{Bad: falling})
	for n := range 40 {
		held(t, api.Table{Bad: row(n)})
		held(t, api.Table{Bad: flat(n, 7)})
	}
	held(t, api.Table{Bad: nil})
	held(t, api.Table{Bad: []int{}})
}

// P16.1: at most 34 Wear, whatever each one is.
func TestCheckOfHowManyWear(t *testing.T) {
	for n := range 80 {
		for _, of := range []int{0, 1, 65535} {
			want := api.OK
			if n > 34 {
				want = api.ErrRange
			}
			if e := table.Check(api.Table{Wear: flat(n, of)}); e != want {
				t.Errorf("%d Wear: error %d, not %d", n, e, want)
			}
			held(t, api.Table{Wear: flat(n, of)})
		}
	}
	held(t, api.Table{Wear: nil})
	for _, n := range []int{256, 256 + 34, 65536, 65536 + 3} {
		held(t, api.Table{Wear: flat(n, 1)})
	}
}

// P16.1: each Wear is from 0 to 65535, wherever it stands.
func TestCheckOfEachWear(t *testing.T) {
	for n, want := range map[int]api.Errno{math.MinInt: api.ErrRange, -1: api.ErrRange, 0: api.OK, 65535: api.OK, 65536: api.ErrRange, math.MaxInt: api.ErrRange} {
		if e := table.Check(api.Table{Wear: []int{n}}); e != want {
			t.Errorf("Wear %d: error %d, not %d", n, e, want)
		}
	}
	for _, size := range []int{1, 2, 17, 33, 34, 35} {
		for at := range size {
			for _, n := range ints() {
				l := flat(size, 300)
				l[at] = n
				held(t, api.Table{Wear: l})
			}
		}
	}
}

// P16.1: at most 36 Void.
func TestCheckOfHowManyVoid(t *testing.T) {
	for n := range 80 {
		for _, by := range []uint64{1, 2, 26000000} {
			want := api.OK
			if n > 36 {
				want = api.ErrRange
			}
			if e := table.Check(api.Table{Void: steps(n, 3, by)}); e != want {
				t.Errorf("%d Void: error %d, not %d", n, e, want)
			}
			held(t, api.Table{Void: steps(n, 3, by)})
		}
	}
	held(t, api.Table{Void: nil})
	for _, n := range []int{256, 256 + 36, 65536 + 3} {
		held(t, api.Table{Void: steps(n, 0, 1)})
	}
}

// P16.1: Void rise, each below 2^31.
func TestCheckOfEachVoid(t *testing.T) {
	for n, want := range map[uint64]api.Errno{0: api.OK, 1<<31 - 1: api.OK, 1 << 31: api.ErrRange, math.MaxUint64: api.ErrRange} {
		if e := table.Check(api.Table{Void: []uint64{n}}); e != want {
			t.Errorf("Void %d: error %d, not %d", n, e, want)
		}
	}
	for i, a := range longs() {
		held(t, api.Table{Void: []uint64{a}})
		for k, b := range longs() {
			want := api.ErrRange
			if i < k && b <= 1<<31-1 {
				want = api.OK
			}
			if e := table.Check(api.Table{Void: []uint64{a, b}}); e != want {
				t.Errorf("Void %d, %d: error %d, not %d", a, b, e, want)
			}
			held(t, api.Table{Void: []uint64{0, a, b}})
			held(t, api.Table{Void: []uint64{a, 9, b}})
		}
	}
}

// P16.1: Void rise, wherever one does not.
func TestCheckOfVoidInOrder(t *testing.T) {
	for _, size := range []int{2, 3, 35, 36, 37} {
		for at := range size {
			for _, n := range longs() {
				l := steps(size, 100, 7)
				l[at] = n
				held(t, api.Table{Void: l})
			}
			for k := range size {
				l := steps(size, 0, 1)
				l[at], l[k] = l[k], l[at]
				held(t, api.Table{Void: l})
				l = steps(size, 0, 1)
				l[at] = l[k]
				held(t, api.Table{Void: l})
			}
		}
	}
	falling := steps(36, 0, 1)
	slices.Reverse(falling)
	held(t, api.Table{Void: falling})
}

// P16.1: all parts at their edges, each with each other, so that none, one, or several are wrong at once.
func TestCheckOfAllEdgesTogether(t *testing.T) {
	rights := 0
	for _, seq := range []uint64{0, 1<<31 - 1, 1 << 31, math.MaxUint64} {
		for _, bad := range [][]int{nil, {}, row(34), {0}, {33}, {-1}, {34}, {3, 3}, {4, 3}} {
			for _, wear := range [][]int{nil, {}, flat(34, 65535), flat(34, 0), flat(35, 0), {-1}, {65536}} {
				for _, void := range [][]uint64{nil, {}, {0}, steps(36, 1<<31-36, 1), steps(37, 0, 1), {1 << 31}, {2, 2}, {2, 1}} {
					x := api.Table{Seq: seq, Bad: bad, Wear: wear, Void: void}
					held(t, x)
					if table.Check(x) == api.OK {
						rights++
					}
				}
			}
		}
	}
	if rights != 2*5*4*4 {
		t.Errorf("%d tables may be", rights)
	}
}

// P16.1: tables of any numbers.
func TestCheckOfAny(t *testing.T) {
	x := dice(161)
	for range 4000 {
		held(t, x.any())
		held(t, x.table())
	}
}
