package mirror_test

import (
	"bytes"
	"math"
	"reflect"
	"slices"
	"testing"

	"wagtail/api"
	"wagtail/mirror"
	"wagtail/nand"
	"wagtail/page"
	"wagtail/table"
	"wagtail/zeros"
)

// dev are a device's sides.
func dev(blocks, pages int) api.Geom {
	return api.Geom{Blocks: blocks, Pages: pages, Reserve: 1}
}

// sides are some of the sides that may be: the least ones, the greatest ones, and others.
func sides() []api.Geom {
	return []api.Geom{dev(8, 4), dev(34, 4), dev(8, 32), dev(34, 32), dev(9, 5), {Blocks: 16, Pages: 8, Reserve: 8}}
}

// at is a page of a block.
func at(block, page int) api.Place {
	return api.Place{Block: block, Page: page}
}

// fault is what goes wrong at an operation.
func fault(op, kind int, mask ...byte) api.Fault {
	return api.Fault{At: op, Kind: kind, Mask: mask}
}

// made is a device of sides that may be.
func made(t *testing.T, g api.Geom, bad []int, faults ...api.Fault) *nand.Device {
	t.Helper()
	d, e := nand.New(g, bad, faults)
	if e != api.OK || d == nil {
		t.Fatalf("New(%d, %d, %v): error %d", g, bad, faults, e)
	}
	return d
}

// dark is a device, with tables in both regions, that is down.
func dark(t *testing.T) *nand.Device {
	t.Helper()
	d := made(t, dev(8, 4), nil, fault(2, api.FCut))
	for n := range 2 {
		write(t, d, sheet(uint64(n), n))
	}
	if e := d.Erase(5); e != api.ErrDown || !d.Down() {
		t.Fatalf("error %d, down %t", e, d.Down())
	}
	return d
}

// sheet is a table that may be, of a Seq, others of each mark.
func sheet(seq uint64, mark int) api.Table {
	return api.Table{Seq: seq, Bad: []int{mark % 7, 10 + mark%11}, Wear: []int{mark % 65536, 3, 0}, Void: []uint64{uint64(mark), uint64(mark) + 9}}
}

// wrong are tables that may not be: of one fault each, and of several.
func wrong() []api.Table {
	return []api.Table{
		{Seq: 1 << 31},
		{Seq: math.MaxUint64},
		{Bad: []int{34}},
		{Bad: []int{5, 3}},
		{Bad: []int{-1}},
		{Bad: []int{math.MinInt, math.MaxInt}},
		{Wear: []int{65536}},
		{Wear: []int{3, -1}},
		{Wear: make([]int, 35)},
		{Void: []uint64{1 << 31}},
		{Void: []uint64{5, 5}},
		{Void: make([]uint64, 37)},
		{Seq: 1 << 40, Bad: []int{9, 9, 40}, Wear: []int{-1, 1 << 20}, Void: []uint64{7, 6, math.MaxUint64}},
	}
}

// laid is the page of a table that may be.
func laid(t *testing.T, x api.Table) []byte {
	t.Helper()
	b, e := table.Put(x)
	if e != api.OK {
		t.Fatalf("the page of %v: error %d", x, e)
	}
	return b
}

// blank are the bytes of a page that was never programmed.
func blank() []byte {
	return bytes.Repeat([]byte{255}, api.PageSize)
}

// put is a Right page of a head.
func put(t *testing.T, h api.Head, data []byte) []byte {
	t.Helper()
	h.Len = len(data)
	b, e := page.Put(h, string(data))
	if e != api.OK {
		t.Fatalf("the page of %v: error %d", h, e)
	}
	return b
}

// torn are pages that are Torn, of tables of a great Seq, too.
func torn(t *testing.T) [][]byte {
	x := laid(t, sheet(1000, 5))
	l := [][]byte{make([]byte, 256), zeros.Program(blank(), x, []byte{15}), zeros.Program(blank(), x, []byte{255, 0}), slices.Repeat([]byte{1}, 256)}
	for _, i := range []int{0, 11, 90, 251, 255} {
		one := slices.Clone(x)
		one[i] ^= 2
		l = append(l, one)
	}
	for _, b := range l {
		if page.Class(b) != page.Torn {
			t.Fatalf("%d is not Torn", b)
		}
	}
	return l
}

// others are pages that are Right, and no table's, though their heads, or data, are much like a table's.
func others(t *testing.T) [][]byte {
	_, s, _ := page.Get(laid(t, sheet(1000, 5)))
	data := []byte(s)
	var l [][]byte
	for _, kind := range []int{api.KNone, api.KData, api.KMeta, api.KSuper} {
		l = append(l, put(t, api.Head{Kind: kind, Count: 1, Batch: 1000, Lpn: 3}, data))
	}
	for _, h := range []api.Head{{Kind: 1, Count: 2}, {Kind: 1, Count: 2, Index: 1}, {Kind: 1, Count: 1, Open: 1}, {Kind: 1, Count: 1, Lpn: 35}, {Kind: 1, Count: 1, Lpn: 1}} {
		h.Batch = 1000
		l = append(l, put(t, h, data))
	}
	for _, n := range []int{0, 1, 73, len(data) - 1} {
		l = append(l, put(t, api.Head{Kind: 1, Count: 1, Batch: 1000, Lpn: 3}, data[:n]))
	}
	for _, b := range l {
		if _, e := table.Get(b); e != api.ErrForm || page.Class(b) != page.Right {
			t.Fatalf("%d: error %d, class %d", b, e, page.Class(b))
		}
	}
	return l
}

// program programs the next page of a block.
func program(t *testing.T, d *nand.Device, block int, b []byte) {
	t.Helper()
	if e := d.Program(at(block, d.Next(block)), b); e != api.OK {
		t.Fatalf("page %d of block %d: error %d", d.Next(block), block, e)
	}
}

// write writes a table that may be to a device that is up and has no faults any more.
func write(t *testing.T, d *nand.Device, x api.Table) {
	t.Helper()
	if e := mirror.Write(d, x); e != api.OK {
		t.Fatalf("Write of Seq %d: error %d", x.Seq, e)
	}
}

// upTo are tables of Seq 0 to n less 1, written one behind the other to a new device of these faults.
func upTo(t *testing.T, g api.Geom, n int, faults ...api.Fault) *nand.Device {
	t.Helper()
	d := made(t, g, nil, faults...)
	for i := range n {
		write(t, d, sheet(uint64(i), i))
	}
	return d
}

// alike tells whether tables have the same numbers.
func alike(a, b api.Table) bool {
	return a.Seq == b.Seq && slices.Equal(a.Bad, b.Bad) && slices.Equal(a.Wear, b.Wear) && slices.Equal(a.Void, b.Void)
}

// all tells whether lists have the same tables.
func all(a, b []api.Table) bool {
	return slices.EqualFunc(a, b, alike)
}

// nothing tells whether a table is the zero one, as far as it may be told (R3).
func nothing(x api.Table) bool {
	return alike(x, api.Table{})
}

// own is a table with lists of its own.
func own(x api.Table) api.Table {
	return api.Table{Seq: x.Seq, Bad: slices.Clone(x.Bad), Wear: slices.Clone(x.Wear), Void: slices.Clone(x.Void)}
}

// newest holds what Newest tells of a device.
func newest(t *testing.T, d *nand.Device, want api.Table, region int) {
	t.Helper()
	if x, n, e := mirror.Newest(d); e != api.OK || n != region || !alike(x, want) {
		t.Fatalf("Newest: %v, region %d, error %d; not %v, region %d", x, n, e, want, region)
	}
}

// none holds that Newest tells an error, and nothing else.
func none(t *testing.T, d *nand.Device, want api.Errno) {
	t.Helper()
	if x, n, e := mirror.Newest(d); e != want || n != 0 || !nothing(x) {
		t.Fatalf("Newest: %v, region %d, error %d, not %d", x, n, e, want)
	}
}

// state is all that a device tells that is up.
type state struct {
	sides      api.Geom
	ops        int
	marked     []bool
	next, wear []int
	pages      [][]byte // of one block behind those of the other
}

// told is all that a device tells just now.
func told(t *testing.T, d *nand.Device) state {
	t.Helper()
	s := state{sides: d.Sides(), ops: d.Ops()}
	for b := range s.sides.Blocks {
		s.marked = append(s.marked, d.Marked(b))
		s.next = append(s.next, d.Next(b))
		s.wear = append(s.wear, d.Wear(b))
		for p := range s.sides.Pages {
			leaf, e := d.Read(at(b, p))
			if e != api.OK {
				t.Fatalf("page %d of block %d: error %d", p, b, e)
			}
			s.pages = append(s.pages, leaf)
		}
	}
	return s
}

// copied is the same state, that may be changed on its own.
func (s state) copied() state {
	s.next, s.wear, s.pages = slices.Clone(s.next), slices.Clone(s.wear), slices.Clone(s.pages)
	return s
}

// newest is the newest table of a state, as the chapter's Words say, and its region; -1: there is none.
func (s state) newest() (api.Table, int) {
	x, in := api.Table{}, -1
	// Of those of one Seq the one that counts is looked at last.
	for _, region := range []int{1, 0} {
		for p := range s.sides.Pages {
			y, e := table.Get(s.pages[region*s.sides.Pages+p])
			if e == api.OK && (in < 0 || y.Seq >= x.Seq) {
				x, in = y, region
			}
		}
	}
	return x, in
}

// begin begins an operation of a state: it tells the mask of what is done, and how it ends.
func (s *state) begin(faults []api.Fault) ([]byte, api.Errno) {
	op := s.ops
	s.ops++
	for _, f := range faults {
		if f.At == op {
			return f.Mask, map[int]api.Errno{api.FFail: api.ErrFail, api.FCut: api.ErrDown}[f.Kind]
		}
	}
	return []byte{255}, api.OK
}

// erase is what an erase makes of a state, and how it ends.
func (s *state) erase(block int, faults []api.Fault) api.Errno {
	if s.marked[block] {
		return api.ErrBad
	}
	mask, e := s.begin(faults)
	for p := range s.sides.Pages {
		i := block*s.sides.Pages + p
		s.pages[i] = zeros.Erase(s.pages[i], mask)
	}
	s.wear[block]++
	s.next[block] = 0
	if e != api.OK {
		s.next[block] = s.sides.Pages
	}
	return e
}

// program is what a program of a block's next page makes of a state, and how it ends.
func (s *state) program(block int, b []byte, faults []api.Fault) api.Errno {
	if s.marked[block] {
		return api.ErrBad
	}
	mask, e := s.begin(faults)
	i := block*s.sides.Pages + s.next[block]
	s.pages[i] = zeros.Program(s.pages[i], b, mask)
	s.next[block]++
	return e
}

// written is what a Write makes of a state, and how it ends, as the chapter says, if these faults are to come.
func (s state) written(x api.Table, faults []api.Fault) (state, api.Errno) {
	s = s.copied()
	b, e := table.Put(x)
	if e != api.OK {
		return s, table.Check(x)
	}
	region := 0
	if _, in := s.newest(); in == 0 {
		region = 1
	}
	if s.next[region] == s.sides.Pages {
		if e := s.erase(region, faults); e != api.OK {
			return s, e
		}
	}
	return s, s.program(region, b, faults)
}

// formatted is what a Format makes of a state, what it tells, and how it ends.
func (s state) formatted(faults []api.Fault) (state, api.Table, api.Errno) {
	if x, in := s.newest(); in >= 0 {
		return s, x, api.OK
	}
	if s.marked[0] || s.marked[1] {
		return s, api.Table{}, api.ErrBad
	}
	x := api.Table{Wear: make([]int, s.sides.Blocks)}
	s, e := s.written(x, faults)
	if e != api.OK {
		x = api.Table{}
	}
	return s, x, e
}

// same holds what a device tells against what it is to tell.
func same(t *testing.T, d *nand.Device, want state) {
	t.Helper()
	if got := told(t, d); !reflect.DeepEqual(got, want) {
		for i := range want.pages {
			if !bytes.Equal(got.pages[i], want.pages[i]) {
				t.Errorf("page %d of block %d is %d, not %d", i%want.sides.Pages, i/want.sides.Pages, got.pages[i], want.pages[i])
			}
		}
		t.Fatalf("%d operations, next pages %d, erased %d; not %d, %d, %d", got.ops, got.next, got.wear, want.ops, want.next, want.wear)
	}
}

// held holds a Write against what it is to do, all of the device being looked at, and brings the power back, if it is cut; it tells how it ends.
func held(t *testing.T, d *nand.Device, x api.Table, faults ...api.Fault) api.Errno {
	t.Helper()
	want, err := told(t, d).written(x, faults)
	e := mirror.Write(d, x)
	if e != err || d.Down() != (err == api.ErrDown) {
		t.Fatalf("Write(%v): error %d, down %t, not %d", x, e, d.Down(), err)
	}
	d.Power()
	same(t, d, want)
	return e
}

// heldFormat holds a Format against what it is to do, and to tell, likewise.
func heldFormat(t *testing.T, d *nand.Device, faults ...api.Fault) api.Errno {
	t.Helper()
	want, x, err := told(t, d).formatted(faults)
	y, e := mirror.Format(d)
	if e != err || !alike(x, y) || d.Down() != (err == api.ErrDown) {
		t.Fatalf("Format: %v, error %d, down %t, not %v, %d", y, e, d.Down(), x, err)
	}
	d.Power()
	same(t, d, want)
	return e
}

// dice are numbers from a rule, others of each seed.
type dice uint32

// below is the next number, from 0 on, below n.
func (x *dice) below(n int) int {
	*x = *x*1664525 + 1013904223
	return int(*x>>8) % n
}

// mask are some bits, few or many, of few bytes or of a page.
func (x *dice) mask() []byte {
	switch x.below(5) {
	case 0:
		return nil
	case 1:
		return []byte{255}
	case 2:
		return slices.Concat(slices.Repeat([]byte{255}, x.below(256)), make([]byte, 256))[:256]
	}
	m := make([]byte, 1+x.below(300))
	for i := range m {
		m[i] = byte(x.below(256))
	}
	return m
}

// faults are what goes wrong with some of so many operations.
func (x *dice) faults(many int) []api.Fault {
	var l []api.Fault
	for op := range many {
		if x.below(3) == 0 {
			l = append(l, fault(op, 1+x.below(2), x.mask()...))
		}
	}
	return l
}
