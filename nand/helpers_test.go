package nand_test

import (
	"bytes"
	"math"
	"slices"
	"testing"

	"wagtail/api"
	"wagtail/nand"
)

// ints are numbers at the edges of sides, of bytes and words, and of int itself.
func ints() []int {
	l := []int{math.MinInt, math.MinInt + 1, math.MinInt / 2, -1 << 32, -1<<32 + 3, -1 << 31, -256, -34, -8, -4, -2, -1}
	for n := range 11 {
		l = append(l, n)
	}
	return append(l, 16, 31, 32, 33, 34, 35, 36, 255, 256, 256+2, 1<<16+2, 1<<31-1, 1<<31, 1<<32, 1<<32+2, 1<<59, 1<<61+2, 1<<62, math.MaxInt/4+1, math.MaxInt/2+2, math.MaxInt-1, math.MaxInt)
}

// dev are a device's sides.
func dev(blocks, pages, reserve int) api.Geom {
	return api.Geom{Blocks: blocks, Pages: pages, Reserve: reserve}
}

// few are some of the sides that may be: the least ones, the greatest ones, and others.
func few() []api.Geom {
	return []api.Geom{dev(8, 4, 0), dev(8, 32, 8), dev(34, 4, 3), dev(34, 32, 8), dev(9, 5, 1), dev(16, 8, 2)}
}

// at is a page of a block.
func at(block, page int) api.Place {
	return api.Place{Block: block, Page: page}
}

// fault is what goes wrong at an operation.
func fault(op, kind int, mask ...byte) api.Fault {
	return api.Fault{At: op, Kind: kind, Mask: mask}
}

// made is a device of sides that may be.
func made(t *testing.T, g api.Geom, bad []int, faults ...api.Fault) *nand.Device {
	t.Helper()
	d, e := nand.New(g, bad, faults)
	if e != api.OK || d == nil {
		t.Fatalf("New(%d, %d, %v): error %d", g, bad, faults, e)
	}
	return d
}

// row are bytes of a page, others of each seed.
func row(seed int) []byte {
	b := make([]byte, api.PageSize)
	x := uint32(seed)*2654435761 + 12345
	for i := range b {
		x = x*1664525 + 1013904223
		b[i] = byte(x >> 24)
	}
	return b
}

// blank are the bytes of a page that was never programmed.
func blank() []byte {
	return bytes.Repeat([]byte{255}, api.PageSize)
}

// masks are masks that are empty, shorter than a page, as long as one, and longer.
func masks() [][]byte {
	l := [][]byte{nil, {}, {0}, {255}, {15}, {240}, {1}, {255, 0}, {0, 255, 1}, {1, 2, 4, 8, 16, 32, 64, 128}}
	long := slices.Concat(row(1), row(2), row(3))
	return append(l, long[:255], long[:256], long[:257], long[:600], slices.Repeat([]byte{255}, 300), slices.Concat(make([]byte, 256), blank()))
}

// bit tells whether a mask has the bit of value 1<<i in the byte at a place, its bytes being gone over again and again.
func bit(m []byte, place, i int) bool {
	if len(m) == 0 {
		return false
	}
	for place >= len(m) {
		place -= len(m)
	}
	return m[place]>>i%2 == 1
}

// programmed are the bytes that were old, behind a program, bit by bit.
func programmed(old, b, m []byte) []byte {
	now := slices.Clone(old)
	for k := range now {
		for i := range 8 {
			if bit(m, k, i) && b[k]>>i%2 == 0 && now[k]>>i%2 == 1 {
				now[k] -= 1 << i
			}
		}
	}
	return now
}

// erased are the bytes that were old, behind an erase, bit by bit.
func erased(old, m []byte) []byte {
	now := slices.Clone(old)
	for k := range now {
		for i := range 8 {
			if bit(m, k, i) && now[k]>>i%2 == 0 {
				now[k] += 1 << i
			}
		}
	}
	return now
}

// read are the bytes of a page that there is.
func read(t *testing.T, d *nand.Device, p api.Place) []byte {
	t.Helper()
	b, e := d.Read(p)
	if e != api.OK {
		t.Fatalf("Read(%d): error %d", p, e)
	}
	return b
}

// state is all that a device tells.
type state struct {
	sides      api.Geom
	ops        int
	down       bool
	marked     []bool
	next, wear []int
	pages      [][]byte
	errors     []api.Errno
}

// told is all that a device tells just now: of its blocks, of two beyond each end, and of all pages.
func told(d *nand.Device) state {
	s := state{sides: d.Sides(), ops: d.Ops(), down: d.Down()}
	for b := -2; b < s.sides.Blocks+2; b++ {
		s.marked = append(s.marked, d.Marked(b))
		s.next = append(s.next, d.Next(b))
		s.wear = append(s.wear, d.Wear(b))
		for p := range s.sides.Pages {
			page, e := d.Read(at(b, p))
			s.pages = append(s.pages, page)
			s.errors = append(s.errors, e)
		}
	}
	return s
}

// fill programs pages of a block from its next one on, so many.
func fill(t *testing.T, d *nand.Device, block, many int) {
	t.Helper()
	for range many {
		p := at(block, d.Next(block))
		if e := d.Program(p, row(block*100+p.Page)); e != api.OK {
			t.Fatalf("Program(%d): error %d", p, e)
		}
	}
}
