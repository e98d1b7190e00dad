package nand_test

import (
	"bytes"
	"reflect"
	"testing"

	"wagtail/api"
	"wagtail/nand"
)

// P14.3: Program of the next page programs all its bytes, is an operation, and the next page is one more; all else stays.
func TestProgram(t *testing.T) {
	for _, g := range few() {
		d := made(t, g, nil)
		for i, b := range []int{0, 1, 2, g.Blocks - 1} {
			for p := range g.Pages {
				was := told(d)
				if e := d.Program(at(b, p), row(b+p)); e != api.OK {
					t.Fatalf("Program(%d, %d) of %d: error %d", b, p, g, e)
				}
				now := told(d)
				was.ops, was.next[b+2], was.pages[(b+2)*g.Pages+p] = i*g.Pages+p+1, p+1, row(b+p)
				if !reflect.DeepEqual(was, now) {
					t.Fatalf("Program(%d, %d) of %d turned something else", b, p, g)
				}
			}
		}
	}
}

// P14.3: bytes of all values are programmed, 0 and 255 alone among them.
func TestProgramOfAllBytes(t *testing.T) {
	d := made(t, dev(8, 4, 0), nil)
	rising := make([]byte, api.PageSize)
	for i := range rising {
		rising[i] = byte(i)
	}
	for p, b := range [][]byte{rising, blank(), make([]byte, api.PageSize), row(3)} {
		if e := d.Program(at(4, p), b); e != api.OK {
			t.Errorf("Program: error %d", e)
		}
		if got := read(t, d, at(4, p)); !bytes.Equal(got, b) {
			t.Errorf("%d was programmed, %d is there", b, got)
		}
	}
}

// refused tells whether a call on a device of 8 blocks of 4 pages answers an error, and is no operation, and turns nothing.
func refused(t *testing.T, what string, want api.Errno, bad []int, call func(d *nand.Device) api.Errno) {
	t.Helper()
	d := made(t, dev(8, 4, 1), bad, fault(3, api.FCut, 255))
	fill(t, d, 2, 2)
	fill(t, d, 6, 1)
	was := told(d)
	if e := call(d); e != want {
		t.Errorf("%s: error %d, not %d", what, e, want)
	}
	if now := told(d); !reflect.DeepEqual(was, now) {
		t.Errorf("%s: turned something", what)
	}
	if e := d.Program(at(2, 2), row(5)); e != api.ErrDown || d.Ops() != 4 {
		t.Errorf("%s: error %d behind it, not that of operation 3", what, e)
	}
}

// tryProgram asks a device to program so many bytes.
func tryProgram(block, page, size int) func(d *nand.Device) api.Errno {
	return func(d *nand.Device) api.Errno {
		return d.Program(at(block, page), make([]byte, size))
	}
}

// P14.3: Program of bytes that are no page's is ErrRange, and no operation.
func TestProgramOfOtherLengths(t *testing.T) {
	for _, size := range []int{0, 1, 228, 255, 257, 512, 1 << 16} {
		refused(t, "other lengths", api.ErrRange, nil, tryProgram(2, 2, size))
		refused(t, "other lengths, and a page that is not the next one", api.ErrRange, nil, tryProgram(2, 1, size))
	}
	d := made(t, dev(8, 4, 1), nil)
	if e := d.Program(at(2, 0), nil); e != api.ErrRange || d.Ops() != 0 || d.Next(2) != 0 {
		t.Errorf("Program of nil: error %d", e)
	}
}

// P14.3: Program of no page is ErrRange, and no operation.
func TestProgramOfNoPage(t *testing.T) {
	for _, n := range ints() {
		if n < 0 || n >= 8 {
			refused(t, "no block", api.ErrRange, nil, tryProgram(n, 0, api.PageSize))
		}
		if n < 0 || n >= 4 {
			refused(t, "no page", api.ErrRange, nil, tryProgram(2, n, api.PageSize))
			refused(t, "neither block nor page", api.ErrRange, nil, tryProgram(n-4, n, api.PageSize))
		}
	}
}

// P14.3: Program of a marked block is ErrBad, whichever page it is, and no operation.
func TestProgramOfMarked(t *testing.T) {
	for _, b := range []int{0, 1, 3, 7} {
		for p := range 4 {
			refused(t, "marked", api.ErrBad, []int{7, 3, 1, 0, 1}, tryProgram(b, p, api.PageSize))
		}
	}
}

// P14.3: Program of a page that is not the next one is ErrOrder: behind it, ahead of it, and of a block that is full.
func TestProgramOutOfOrder(t *testing.T) {
	for _, p := range []int{0, 1, 3} {
		refused(t, "2 is next", api.ErrOrder, nil, tryProgram(2, p, api.PageSize))
	}
	for _, p := range []int{0, 2, 3} {
		refused(t, "1 is next", api.ErrOrder, nil, tryProgram(6, p, api.PageSize))
	}
	for _, p := range []int{1, 2, 3} {
		refused(t, "0 is next", api.ErrOrder, nil, tryProgram(0, p, api.PageSize))
	}
	for _, g := range few() {
		d := made(t, g, nil)
		fill(t, d, 5, g.Pages)
		for p := range g.Pages {
			if e := d.Program(at(5, p), row(1)); e != api.ErrOrder {
				t.Errorf("Program of page %d of a block of %d that is full: error %d", p, g, e)
			}
		}
		if e := d.Program(at(5, g.Pages), row(1)); e != api.ErrRange || d.Ops() != g.Pages || d.Next(5) != g.Pages {
			t.Errorf("Program of a page of %d that there is not: error %d", g, e)
		}
	}
}

// P14.3, R2: where several errors apply, it is the one that the chapter names first.
func TestProgramErrorsInOrder(t *testing.T) {
	bad := []int{3}
	refused(t, "no block, wrong length", api.ErrRange, bad, tryProgram(8, 0, 3))
	refused(t, "no page, marked block", api.ErrRange, bad, tryProgram(3, 4, api.PageSize))
	refused(t, "no page, below 0, marked block", api.ErrRange, bad, tryProgram(3, -1, api.PageSize))
	refused(t, "wrong length, marked block", api.ErrRange, bad, tryProgram(3, 0, 255))
	refused(t, "no bytes, marked block, not the next page", api.ErrRange, bad, tryProgram(3, 2, 0))
	refused(t, "wrong length, not the next page", api.ErrRange, bad, tryProgram(2, 0, 257))
	refused(t, "no page, not the next page", api.ErrRange, bad, tryProgram(2, 4, api.PageSize))
	refused(t, "marked block, not the next page", api.ErrBad, bad, tryProgram(3, 1, api.PageSize))
}

// P14.3: with a fault just the mask's bits are programmed, the next page is one more, and of FCut the device is down.
func TestProgramWithFault(t *testing.T) {
	for _, kind := range []int{api.FFail, api.FCut} {
		for i, m := range masks() {
			d := made(t, dev(8, 4, 1), nil, api.Fault{At: 1, Kind: kind, Mask: m})
			fill(t, d, 2, 1)
			was := told(d)
			e := d.Program(at(2, 1), row(i))
			down := d.Down()
			d.Power()
			now := told(d)
			if kind == api.FFail && (e != api.ErrFail || down) || kind == api.FCut && (e != api.ErrDown || !down) {
				t.Errorf("kind %d: error %d, down %t", kind, e, down)
			}
			was.ops, was.next[4], was.pages[4*4+1] = 2, 2, programmed(blank(), row(i), m)
			if !reflect.DeepEqual(was, now) {
				t.Errorf("kind %d, mask %d: the page is %d", kind, m, now.pages[4*4+1])
			}
		}
	}
}

// P14.3: behind a program with a fault the next page is programmed as ever, and the page with the fault no more, till it is erased.
func TestProgramBehindFault(t *testing.T) {
	for _, kind := range []int{api.FFail, api.FCut} {
		d := made(t, dev(8, 4, 1), nil, fault(0, kind, 240))
		d.Program(at(2, 0), row(1))
		d.Power()
		if e := d.Program(at(2, 0), row(1)); e != api.ErrOrder {
			t.Errorf("kind %d: error %d of the page once more", kind, e)
		}
		if e := d.Program(at(2, 1), row(2)); e != api.OK || !bytes.Equal(read(t, d, at(2, 1)), row(2)) {
			t.Errorf("kind %d: error %d of the next page", kind, e)
		}
		if e := d.Erase(2); e != api.OK {
			t.Errorf("kind %d: error %d of an erase", kind, e)
		}
		if e := d.Program(at(2, 0), row(1)); e != api.OK || !bytes.Equal(read(t, d, at(2, 0)), row(1)) {
			t.Errorf("kind %d: error %d of the page, erased", kind, e)
		}
	}
}

// P14.2 to P14.4, R2: while a device is down, all is ErrDown, whatever else is wrong with it, and no operation; behind Power it is as it was.
func TestDown(t *testing.T) {
	d := made(t, dev(8, 4, 1), []int{3}, fault(2, api.FCut, 15), fault(3, api.FFail, 255))
	fill(t, d, 2, 2)
	if e := d.Program(at(2, 2), row(7)); e != api.ErrDown || !d.Down() {
		t.Fatalf("error %d, down %t", e, d.Down())
	}
	want := told(d)
	for _, block := range []int{-1, 0, 2, 3, 8, 34} {
		for _, page := range []int{-1, 0, 1, 2, 3, 4} {
			if b, e := d.Read(at(block, page)); b != nil || e != api.ErrDown {
				t.Errorf("Read(%d, %d): %d, error %d", block, page, b, e)
			}
			for _, size := range []int{0, 255, 256, 257} {
				if e := d.Program(at(block, page), row(1)[:min(size, 256)]); e != api.ErrDown {
					t.Errorf("Program(%d, %d) of %d bytes: error %d", block, page, size, e)
				}
			}
		}
		if e := d.Erase(block); e != api.ErrDown {
			t.Errorf("Erase(%d): error %d", block, e)
		}
	}
	if now := told(d); !reflect.DeepEqual(want, now) || d.Ops() != 3 || d.Next(2) != 3 {
		t.Errorf("down: %d operations, next page %d", d.Ops(), d.Next(2))
	}
	d.Power()
	for p, b := range [][]byte{row(200), row(201), programmed(blank(), row(7), []byte{15}), blank()} {
		if got := read(t, d, at(2, p)); !bytes.Equal(got, b) {
			t.Errorf("page %d is %d behind Power", p, got)
		}
	}
	if e := d.Erase(3); e != api.ErrBad {
		t.Errorf("error %d of a marked block behind Power", e)
	}
	if e := d.Program(at(2, 3), row(1)); e != api.ErrFail || d.Down() || d.Ops() != 4 {
		t.Errorf("error %d of operation 3, down %t", e, d.Down())
	}
}
