package scan_test

import (
	"bytes"
	"math"
	"reflect"
	"slices"
	"strings"
	"testing"

	"wagtail/api"
	"wagtail/nand"
	"wagtail/page"
	"wagtail/scan"
	"wagtail/table"
	"wagtail/zeros"
)

// dev are a device's sides.
func dev(blocks, pages int) api.Geom {
	return api.Geom{Blocks: blocks, Pages: pages, Reserve: 1}
}

// sides are some of the sides that may be: the least ones, the greatest ones, and others.
func sides() []api.Geom {
	return []api.Geom{dev(8, 4), dev(34, 4), dev(8, 32), dev(34, 32), dev(9, 5), {Blocks: 16, Pages: 8, Reserve: 8}}
}

// beside are numbers that no block, and no page, has, of however many.
func beside() []int {
	return []int{math.MinInt, math.MinInt + 1, math.MinInt + 5, -1 << 62, -1 << 32, -1<<32 + 5, -1 << 31, -256, -34, -32, -8, -4, -2, -1, 34, 35, 64, 255, 256, 261, 65536, 1<<31 - 1, 1 << 31, 1 << 32, 1<<32 + 5, 1 << 62, 1<<62 + 5, math.MaxInt - 1, math.MaxInt}
}

// at is a page of a block.
func at(block, page int) api.Place {
	return api.Place{Block: block, Page: page}
}

// fault is what goes wrong at an operation.
func fault(op, kind int, mask ...byte) api.Fault {
	return api.Fault{At: op, Kind: kind, Mask: mask}
}

// sheet is the bytes of a page, and what is read of them.
type sheet struct {
	b    []byte
	h    api.Head
	data string
	e    api.Errno
}

// find tells whether a sheet is a find, where it is on a data block that is not marked.
func (s sheet) find() bool {
	return s.e == api.OK && s.h.Kind != api.KTable
}

// blank is a sheet that is Blank.
func blank() sheet {
	return sheet{b: zeros.Ones(api.PageSize), e: api.ErrNone}
}

// right is a sheet of a head, and of data, that is Right.
func right(t *testing.T, h api.Head, data string) sheet {
	t.Helper()
	h.Len = len(data)
	b, e := page.Put(h, data)
	if e != api.OK {
		t.Fatalf("the page of %v: error %d", h, e)
	}
	return sheet{b: b, h: h, data: data}
}

// of is a sheet of a kind, others of each mark.
func of(t *testing.T, kind, mark int) sheet {
	t.Helper()
	h := api.Head{Kind: kind, Index: mark % 3, Count: 3 + mark%13, Batch: uint64(mark) * 7, Open: uint64(mark) + 1, Lpn: mark % 65536}
	return right(t, h, strings.Repeat(string(rune('a'+mark%26)), mark%229))
}

// known is a sheet of a table that may be, others of each mark.
func known(t *testing.T, mark int) sheet {
	t.Helper()
	b, e := table.Put(api.Table{Seq: uint64(mark), Bad: []int{mark % 7, 7 + mark%20}, Wear: []int{mark % 65536, 3, 0}})
	if e != api.OK {
		t.Fatalf("a table: error %d", e)
	}
	h, data, e := page.Get(b)
	if e != api.OK {
		t.Fatalf("a table's page: error %d", e)
	}
	return sheet{b: b, h: h, data: data}
}

// torn is a sheet of what is held that is Torn.
func torn(t *testing.T, b []byte) sheet {
	t.Helper()
	if page.Class(b) != page.Torn {
		t.Fatalf("%d is not Torn", b)
	}
	return sheet{b: b, e: api.ErrForm}
}

// torns are sheets that are Torn: of programs in part, of nothing but 0, and of pages of which one bit is another one.
func torns(t *testing.T) []sheet {
	t.Helper()
	x := of(t, api.KData, 100)
	var l []sheet
	for _, mask := range [][]byte{{15}, {240}, {255, 0}, {1}, {254}, slices.Concat(zeros.Ones(255), []byte{0}), slices.Concat(zeros.Ones(1), make([]byte, 255))} {
		l = append(l, torn(t, zeros.Program(blank().b, x.b, mask)))
	}
	l = append(l, torn(t, make([]byte, api.PageSize)))
	for _, i := range []int{0, 3, 11, 20, 60, 251, 255} {
		one := slices.Clone(x.b)
		one[i] ^= 4
		l = append(l, torn(t, one))
	}
	return l
}

// sorts are sheets of each sort: Blank, Torn, tables', and Right ones of each other kind.
func sorts(t *testing.T, mark int) []sheet {
	t.Helper()
	all := torns(t)
	l := []sheet{blank(), all[mark%len(all)], known(t, mark), of(t, api.KTable, mark)}
	for kind := api.KNone; kind <= api.KSuper; kind++ {
		l = append(l, of(t, kind, mark))
	}
	return l
}

// read is the sheet of what a device holds on a page.
func read(t *testing.T, d *nand.Device, p api.Place) sheet {
	t.Helper()
	b, e := d.Read(p)
	if e != api.OK {
		t.Fatalf("page %d of block %d: error %d", p.Page, p.Block, e)
	}
	h, data, e := page.Get(b)
	return sheet{b: b, h: h, data: data, e: e}
}

// made is a device of sides that may be.
func made(t *testing.T, g api.Geom, bad []int, faults ...api.Fault) *nand.Device {
	t.Helper()
	d, e := nand.New(g, bad, faults)
	if e != api.OK || d == nil {
		t.Fatalf("New(%d, %d, %v): error %d", g, bad, faults, e)
	}
	return d
}

// program programs the next page of a block.
func program(t *testing.T, d *nand.Device, block int, s sheet) {
	t.Helper()
	if e := d.Program(at(block, d.Next(block)), s.b); e != api.OK {
		t.Fatalf("page %d of block %d: error %d", d.Next(block), block, e)
	}
}

// rack is what is on the pages of a device's blocks, from page 0 on; all else is Blank.
type rack map[int][]sheet

// filled is a new device with all that on its pages.
func filled(t *testing.T, g api.Geom, bad []int, r rack) *nand.Device {
	t.Helper()
	d := made(t, g, bad)
	// The last block is programmed first: what is found is not told in the order of programs.
	for block := g.Blocks - 1; block >= 0; block-- {
		for _, s := range r[block] {
			program(t, d, block, s)
		}
	}
	return d
}

// sheet is what is on a page.
func (r rack) sheet(p api.Place) sheet {
	if p.Page < len(r[p.Block]) {
		return r[p.Block][p.Page]
	}
	return blank()
}

// finds are those that are to be found, as the chapter's Words say.
func (r rack) finds(g api.Geom, bad []int) []api.Found {
	var l []api.Found
	for block := 2; block < g.Blocks; block++ {
		for n := range g.Pages {
			if s := r.sheet(at(block, n)); s.find() && !slices.Contains(bad, block) {
				l = append(l, api.Found{At: at(block, n), H: s.h})
			}
		}
	}
	return l
}

// blank tells whether all pages of a block are Blank.
func (r rack) blank(block int) bool {
	return !slices.ContainsFunc(r[block], func(s sheet) bool { return s.e != api.ErrNone })
}

// racked is what is on a device that is up, page by page, as it stands there.
func racked(t *testing.T, d *nand.Device) rack {
	t.Helper()
	r := rack{}
	for block := range d.Sides().Blocks {
		for n := range d.Sides().Pages {
			r[block] = append(r[block], read(t, d, at(block, n)))
		}
	}
	return r
}

// marked are the blocks of a device that are marked.
func marked(d *nand.Device) []int {
	var l []int
	for block := range d.Sides().Blocks {
		if d.Marked(block) {
			l = append(l, block)
		}
	}
	return l
}

// all are all finds of a device that is up.
func all(t *testing.T, d *nand.Device) []api.Found {
	t.Helper()
	l, e := scan.All(d)
	if e != api.OK {
		t.Fatalf("All: error %d", e)
	}
	return l
}

// holds holds all that is told of a device that is up against what is on it.
func holds(t *testing.T, d *nand.Device, r rack) {
	t.Helper()
	g := d.Sides()
	want := r.finds(g, marked(d))
	l := all(t, d)
	if !slices.Equal(l, want) {
		t.Fatalf("All: %v, not %v", l, want)
	}
	for block := range g.Blocks {
		if got := scan.Blank(d, block); got != r.blank(block) {
			t.Fatalf("Blank(%d) = %t", block, got)
		}
		alone := slices.DeleteFunc(slices.Clone(want), func(f api.Found) bool { return f.At.Block != block })
		if got := scan.Of(l, block); !slices.Equal(got, alone) {
			t.Fatalf("Of block %d: %v, not %v", block, got, alone)
		}
		for n := range g.Pages {
			holdsData(t, d, at(block, n), r.sheet(at(block, n)))
		}
	}
}

// holdsData holds what Data tells of a page.
func holdsData(t *testing.T, d *nand.Device, p api.Place, want sheet) {
	t.Helper()
	if h, data, e := scan.Data(d, p); h != want.h || data != want.data || e != want.e {
		t.Fatalf("Data(%v): %v, %q, error %d; not %v, %q, %d", p, h, data, e, want.h, want.data, want.e)
	}
}

// noData holds that Data tells an error, and nothing else.
func noData(t *testing.T, d *nand.Device, p api.Place, want api.Errno) {
	t.Helper()
	holdsData(t, d, p, sheet{e: want})
}

// dark is a device, with pages on several blocks, one of them marked, that is down.
func dark(t *testing.T) *nand.Device {
	t.Helper()
	d := made(t, dev(8, 4), []int{6}, fault(3, api.FCut))
	program(t, d, 0, known(t, 1))
	program(t, d, 2, of(t, api.KMeta, 2))
	program(t, d, 7, of(t, api.KData, 3))
	if e := d.Erase(5); e != api.ErrDown || !d.Down() {
		t.Fatalf("error %d, down %t", e, d.Down())
	}
	return d
}

// darkRack is what is on that device.
func darkRack(t *testing.T) rack {
	t.Helper()
	return rack{0: {known(t, 1)}, 2: {of(t, api.KMeta, 2)}, 7: {of(t, api.KData, 3)}}
}

// state is all that a device tells that is up.
type state struct {
	sides      api.Geom
	ops        int
	marked     []int
	next, wear []int
	pages      [][]byte
}

// told is all that a device tells just now.
func told(t *testing.T, d *nand.Device) state {
	t.Helper()
	s := state{sides: d.Sides(), ops: d.Ops(), marked: marked(d)}
	for block := range s.sides.Blocks {
		s.next = append(s.next, d.Next(block))
		s.wear = append(s.wear, d.Wear(block))
		for n := range s.sides.Pages {
			s.pages = append(s.pages, bytes.Clone(read(t, d, at(block, n)).b))
		}
	}
	return s
}

// same holds that a device tells what it told.
func same(t *testing.T, d *nand.Device, was state) {
	t.Helper()
	if now := told(t, d); !reflect.DeepEqual(now, was) {
		t.Fatalf("%d operations, next pages %d, erased %d; not %d, %d, %d; or other pages", now.ops, now.next, now.wear, was.ops, was.next, was.wear)
	}
}

// dice are numbers from a rule, others of each seed.
type dice uint32

// below is the next number, from 0 on, below n.
func (x *dice) below(n int) int {
	*x = *x*1664525 + 1013904223
	return int(*x>>8) % n
}

// mask are some bits, few or many, of few bytes or of a page.
func (x *dice) mask() []byte {
	switch x.below(5) {
	case 0:
		return nil
	case 1:
		return []byte{255}
	case 2:
		return slices.Concat(zeros.Ones(x.below(256)), make([]byte, 256))[:256]
	}
	m := make([]byte, 1+x.below(300))
	for i := range m {
		m[i] = byte(x.below(256))
	}
	return m
}

// faults are what goes wrong with some of so many operations.
func (x *dice) faults(many int) []api.Fault {
	var l []api.Fault
	for op := range many {
		if x.below(4) == 0 {
			l = append(l, fault(op, 1+x.below(2), x.mask()...))
		}
	}
	return l
}
