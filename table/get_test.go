package table_test

import (
	"bytes"
	"math"
	"slices"
	"strconv"
	"testing"

	"wagtail/api"
	"wagtail/page"
	"wagtail/table"
)

// P16.4: Get of Put is the table, whatever it holds.
func TestBack(t *testing.T) {
	l := many()
	for n := range 37 {
		l = append(l, api.Table{Void: steps(n, 5, 9)}, api.Table{Wear: flat(min(n, 34), n)}, api.Table{Bad: row(min(n, 34))})
	}
	for _, n := range longs() {
		if n < 1<<31 {
			l = append(l, api.Table{Seq: n}, api.Table{Void: []uint64{n}})
		}
	}
	d := dice(164)
	for range 2000 {
		l = append(l, d.table())
	}
	for _, x := range l {
		y, e := table.Get(put(t, x))
		if e != api.OK || !alike(x, y) || !table.Same(x, y) || table.Check(y) != api.OK {
			t.Fatalf("of %v: %v, error %d", x, y, e)
		}
	}
}

// P16.2: what is got, and laid again, are the same bytes.
func TestThereAgain(t *testing.T) {
	for _, x := range many() {
		b := laid(x)
		y, e := table.Get(b)
		if e != api.OK || !bytes.Equal(put(t, y), b) {
			t.Fatalf("of %v: %v, error %d", x, y, e)
		}
	}
}

// P16.2: a table's page written out is read.
func TestGetWrittenOut(t *testing.T) {
	data := slices.Concat([]byte{1, 128, 0, 0, 2}, []byte{0, 9, 1, 0}, make([]byte, 64), []byte{2}, []byte{0, 0, 0, 0, 127, 255, 255, 255})
	b, e := page.Put(api.Head{Kind: api.KTable, Count: 1, Batch: 77, Lpn: 3, Len: len(data)}, string(data))
	if e != api.OK {
		t.Fatal(e)
	}
	want := api.Table{Seq: 77, Bad: []int{0, 15, 33}, Wear: []int{9, 256, 0}, Void: []uint64{0, 1<<31 - 1}}
	if x, e := table.Get(b); e != api.OK || !alike(x, want) {
		t.Errorf("%v, error %d", x, e)
	}
}

// P16.2: bytes that are not a page's are refused as page.Get refuses them: ErrNone of a blank page, ErrForm of all else.
func TestGetOfNoPages(t *testing.T) {
	refused(t, "nil", nil, api.ErrForm)
	refused(t, "a blank page", blank(), api.ErrNone)
	for _, x := range many()[:12] {
		right := laid(x)
		for _, n := range []int{0, 1, 2, 24, 98, 128, 252, 255} {
			refused(t, "fewer bytes", right[:n], api.ErrForm)
			refused(t, "fewer bytes of 255", blank()[:n], api.ErrForm)
		}
		for _, more := range [][]byte{{0}, {255}, right, blank()} {
			refused(t, "more bytes", slices.Concat(right, more), api.ErrForm)
			refused(t, "more bytes", slices.Concat(blank(), more), api.ErrForm)
		}
		for k := range right {
			for i := range 8 {
				torn := slices.Clone(right)
				torn[k] ^= 1 << i
				refused(t, "a page with a bit turned", torn, api.ErrForm)
			}
		}
	}
}

// P16.2: a right page of each other kind is no table's page, whatever it holds.
func TestGetOfOtherKinds(t *testing.T) {
	for _, x := range few() {
		data := record(x)
		for kind := range 8 {
			h := top(x, len(data))
			h.Kind = kind
			want := api.ErrForm
			if kind == api.KTable {
				want = api.OK
			}
			if e := hold(t, framed(h, data)); e != want {
				t.Errorf("Kind %d of %v: error %d", kind, x, e)
			}
		}
	}
	for _, kind := range []int{api.KNone, api.KData, api.KMeta, api.KSuper} {
		b, _ := page.Put(api.Head{Kind: kind, Count: 1}, "")
		refused(t, "a page of another kind", b, api.ErrForm)
	}
}

// P16.2: a page of another Count, Index or Open is no table's page; of another Batch it is another table's.
func TestGetOfOtherHeads(t *testing.T) {
	for _, x := range few() {
		data := record(x)
		for count := range 18 {
			for index := range 18 {
				h := top(x, len(data))
				h.Count, h.Index = count, index
				if e := hold(t, framed(h, data)); (e == api.OK) != (count == 1 && index == 0) {
					t.Errorf("Count %d, Index %d: error %d", count, index, e)
				}
			}
		}
		for _, n := range longs() {
			h := top(x, len(data))
			h.Open = n
			if e := hold(t, framed(h, data)); (e == api.OK) != (n == 0) || e != api.OK && e != api.ErrForm {
				t.Errorf("Open %d: error %d", n, e)
			}
			h = top(x, len(data))
			h.Batch = n
			y, e := table.Get(framed(h, data))
			if (e == api.OK) != (n < 1<<31) || e == api.OK && (y.Seq != n || !slices.Equal(y.Void, x.Void)) {
				t.Errorf("Batch %d: %v, error %d", n, y, e)
			}
		}
	}
}

// P16.2: as many Wear as Lpn says, at most 34; those behind them are 0.
func TestGetOfOtherLpns(t *testing.T) {
	for _, x := range few() {
		data := record(x)
		last := 0
		for i, n := range x.Wear {
			if n != 0 {
				last = i + 1
			}
		}
		for lpn := range 300 {
			h := top(x, len(data))
			h.Lpn = lpn
			y, e := table.Get(framed(h, data))
			if right := lpn >= last && lpn <= 34; right != (e == api.OK) || right && len(y.Wear) != lpn || !right && (e != api.ErrForm || !nothing(y)) {
				t.Errorf("Lpn %d of %v: %v, error %d", lpn, x, y, e)
			}
			hold(t, framed(h, data))
		}
		for _, lpn := range []int{256 + 34, 32767, 32768, 65534, 65535} {
			h := top(x, len(data))
			h.Lpn = lpn
			refused(t, "Lpn "+strconv.Itoa(lpn), framed(h, data), api.ErrForm)
		}
	}
}

// P16.2: each Wear behind the last one is 0.
func TestGetOfWearBehindTheLast(t *testing.T) {
	for _, size := range []int{0, 1, 2, 17, 33, 34} {
		x := api.Table{Seq: 3, Wear: flat(size, 258)}
		for at := 5; at < 73; at++ {
			for _, n := range []byte{1, 128, 255} {
				data := record(x)
				data[at] = n
				want := api.OK
				if (at-5)/2 >= size {
					want = api.ErrForm
				}
				if e := hold(t, framed(top(x, len(data)), data)); e != want {
					t.Errorf("%d Wear, byte %d is %d: error %d", size, at, n, e)
				}
			}
		}
	}
}

// P16.2: bits of blocks beyond the last one that there may be are 0.
func TestGetOfBitsBeyondTheLastBlock(t *testing.T) {
	for _, x := range few() {
		for bit := range 40 {
			data := record(x)
			data[bit/8] ^= 1 << (bit % 8)
			y, e := table.Get(framed(top(x, len(data)), data))
			want := api.OK
			if bit > 33 {
				want = api.ErrForm
			}
			if e != want || e != api.OK && !nothing(y) || e == api.OK && slices.Contains(y.Bad, bit) == slices.Contains(x.Bad, bit) {
				t.Errorf("bit %d of %v: %v, error %d", bit, x, y, e)
			}
			hold(t, framed(top(x, len(data)), data))
		}
		for n := range 256 {
			data := record(x)
			data[4] = byte(n)
			if e := hold(t, framed(top(x, len(data)), data)); (e == api.OK) != (n < 4) {
				t.Errorf("fifth byte %d: error %d", n, e)
			}
		}
	}
}

// P16.2: how many Void there are is at most 36, and as many as there are bytes for.
func TestGetOfHowManyVoid(t *testing.T) {
	for n := range 39 {
		data := record(api.Table{Void: steps(n, 1, 3)})
		for says := range 256 {
			data[73] = byte(says)
			want := api.ErrForm
			if says == n && n <= 36 {
				want = api.OK
			}
			if e := hold(t, framed(top(api.Table{}, len(data)), data)); e != want {
				t.Errorf("%d Void, told to be %d: error %d", n, says, e)
			}
		}
	}
}

// P16.2: Void rise, and are below 2^31.
func TestGetOfEachVoid(t *testing.T) {
	for i, a := range longs() {
		for k, b := range longs() {
			if a > math.MaxUint32 || b > math.MaxUint32 {
				continue
			}
			x := api.Table{Void: []uint64{a, b}}
			want := api.ErrForm
			if i < k && b < 1<<31 {
				want = api.OK
			}
			if e := hold(t, laid(x)); e != want {
				t.Errorf("Void %d, %d: error %d", a, b, e)
			}
			hold(t, laid(api.Table{Void: []uint64{0, a, b}}))
			hold(t, laid(api.Table{Void: []uint64{a}}))
		}
	}
	for at := range 36 {
		for _, n := range []uint64{0, 1, 2, 70, 71, 1<<31 - 1, 1 << 31, math.MaxUint32} {
			l := steps(36, 1, 2)
			l[at] = n
			hold(t, laid(api.Table{Void: l}))
		}
	}
}

// P16.2: data that are cut, or go on, wherever, are no table's.
func TestGetOfOtherLengths(t *testing.T) {
	for _, x := range few() {
		data := record(x)
		for n := range 229 {
			for _, of := range []byte{0, 1, 255} {
				other := append(slices.Clone(data[:min(n, len(data))]), bytes.Repeat([]byte{of}, max(n-len(data), 0))...)
				want := api.ErrForm
				if n == len(data) {
					want = api.OK
				}
				if e := hold(t, framed(top(x, n), other)); e != want {
					t.Errorf("%d bytes for %d, of %v: error %d", n, len(data), x, e)
				}
			}
		}
	}
}

// P16.2: each byte of a page changed, to each other value, the page's count of bits put right.
func TestGetWithEachByteChanged(t *testing.T) {
	for i, x := range few() {
		was := laid(x)
		for k := range 252 {
			// Of most tables one value in seven, others at each byte, so that the test takes no long time.
			for n := range 256 {
				if i != 3 && i != 7 && (n+k)%7 != 0 {
					continue
				}
				b := slices.Clone(was[:252])
				b[k] = byte(n)
				hold(t, sealed(b))
			}
		}
	}
}

// P16.2: two bytes of a page changed, the page's count of bits put right.
func TestGetWithTwoBytesChanged(t *testing.T) {
	d := dice(165)
	for _, x := range few() {
		was := laid(x)
		for range 4000 {
			b := slices.Clone(was[:252])
			b[d.below(252)] = byte(d.below(256))
			b[[]int{0, 1, 2, 11, 19, 21, 23, 28, 29, 96, 97, 98, 101}[d.below(13)]] = byte(d.below(40))
			hold(t, sealed(b))
		}
	}
}

// P16.2: pages of tables that may not be are none, even if all else of them is right.
func TestGetOfWrong(t *testing.T) {
	for _, x := range []api.Table{
		{Seq: 1 << 31}, {Seq: math.MaxUint64},
		{Bad: []int{34}}, {Bad: []int{39}}, {Bad: row(40)},
		{Wear: flat(35, 0)}, {Wear: flat(34+18, 0)},
		{Void: []uint64{1 << 31}}, {Void: []uint64{5, 5}}, {Void: []uint64{6, 5}}, {Void: steps(37, 0, 1)}, {Void: steps(38, 0, 1)},
	} {
		refused(t, "a table that may not be", laid(x), api.ErrForm)
	}
}

// P16.2: tables are the same, if each part is.
func TestSame(t *testing.T) {
	for i, a := range many() {
		for k, b := range many() {
			if table.Same(a, b) != (i == k) {
				t.Errorf("Same(%v, %v) = %v", a, b, i != k)
			}
		}
	}
}

// P16.2: tables of which one part differs, at any place, or in how many it has, are not the same.
func TestSameOfOneOtherPart(t *testing.T) {
	for _, x := range append(many(), wrong()...) {
		if !table.Same(x, own(x)) || !table.Same(x, x) {
			t.Errorf("%v is not itself", x)
		}
		for _, y := range others(x) {
			if table.Same(x, y) || table.Same(y, x) {
				t.Errorf("%v and %v are the same", x, y)
			}
		}
	}
}

// others are tables that are not as one is, by one part each.
func others(x api.Table) []api.Table {
	l := []api.Table{}
	other := func(change func(y *api.Table)) {
		y := own(x)
		change(&y)
		l = append(l, y)
	}
	other(func(y *api.Table) { y.Seq++ })
	other(func(y *api.Table) { y.Seq ^= 1 << 63 })
	other(func(y *api.Table) { y.Bad = append(y.Bad, 0) })
	other(func(y *api.Table) { y.Wear = append(y.Wear, 0) })
	other(func(y *api.Table) { y.Void = append(y.Void, 0) })
	for i := range x.Bad {
		other(func(y *api.Table) { y.Bad[i]++ })
		other(func(y *api.Table) { y.Bad = y.Bad[:i] })
	}
	for i := range x.Wear {
		other(func(y *api.Table) { y.Wear[i]-- })
		other(func(y *api.Table) { y.Wear = y.Wear[:i] })
	}
	for i := range x.Void {
		other(func(y *api.Table) { y.Void[i] ^= 1 << 32 })
		other(func(y *api.Table) { y.Void = y.Void[:i] })
	}
	if len(x.Bad) > 1 && x.Bad[0] != x.Bad[1] {
		other(func(y *api.Table) { y.Bad[0], y.Bad[1] = y.Bad[1], y.Bad[0] })
	}
	return l
}

// P16.2, R3: a part without an element may be nil or empty.
func TestSameOfNilAndEmpty(t *testing.T) {
	empty := api.Table{Bad: []int{}, Wear: []int{}, Void: []uint64{}}
	if !table.Same(api.Table{}, empty) || !table.Same(empty, api.Table{}) || !table.Same(empty, empty) {
		t.Error("nil and empty parts are not the same")
	}
	for _, x := range []api.Table{{Bad: []int{0}}, {Wear: []int{0}}, {Void: []uint64{0}}, {Seq: 1}} {
		if table.Same(x, empty) || table.Same(empty, x) || table.Same(x, api.Table{}) || table.Same(api.Table{}, x) {
			t.Errorf("%v is as a table of nothing", x)
		}
	}
	if table.Same(api.Table{Bad: []int{1}}, api.Table{Wear: []int{1}}) {
		t.Error("Bad and Wear are taken for each other")
	}
}
