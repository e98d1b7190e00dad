package table_test

import (
	"bytes"
	"slices"
	"testing"

	"wagtail/api"
	"wagtail/page"
	"wagtail/table"
)

// P16.1: the chapter's example.
func TestFirstByteOfBad3(t *testing.T) {
	_, data, e := page.Get(put(t, api.Table{Bad: []int{3}}))
	if e != api.OK || len(data) != 74 || data[0] != 8 {
		t.Errorf("%q, error %d", data, e)
	}
}

// P16.1: a table's page, each byte written out.
func TestPutWrittenOut(t *testing.T) {
	x := api.Table{Seq: 0x01020304, Bad: []int{0, 3, 9, 33}, Wear: []int{0x0506, 0, 65535}, Void: []uint64{7, 0x08090a0b}}
	want := slices.Concat(
		[]byte{1, 0, 1, 0},
		[]byte{0, 0, 0, 0, 1, 2, 3, 4},
		[]byte{0, 0, 0, 0, 0, 0, 0, 0},
		[]byte{0, 3, 0, 82},
		[]byte{9, 2, 0, 0, 2},
		[]byte{5, 6, 0, 0, 255, 255},
		make([]byte, 62),
		[]byte{2, 0, 0, 0, 7, 8, 9, 10, 11},
		bytes.Repeat([]byte{255}, 146),
		// 800 bits that are 0: those of 106 bytes, less 2, 5, 0, 5, 4, 20, 0 and 12 that are 1.
		[]byte{0, 0, 3, 32},
	)
	if b := put(t, x); !bytes.Equal(b, want) {
		t.Errorf("%d\nnot %d", b, want)
	}
}

// P16.1: the page of a table of nothing.
func TestPutOfNothing(t *testing.T) {
	// 1, 1 and 3 bits of the head are 1.
	zero := 98*8 - 5
	want := slices.Concat([]byte{1, 0, 1}, make([]byte, 17), []byte{0, 0, 0, 74}, make([]byte, 74), bytes.Repeat([]byte{255}, 154), []byte{0, 0, byte(zero >> 8), byte(zero & 255)})
	for _, x := range []api.Table{{}, {Bad: []int{}, Wear: []int{}, Void: []uint64{}}} {
		if b := put(t, x); !bytes.Equal(b, want) {
			t.Errorf("%d\nnot %d", b, want)
		}
	}
}

// P16.1: the table that has the most of all, and the greatest.
func TestPutOfTheMost(t *testing.T) {
	h, data, e := page.Get(put(t, few()[1]))
	if e != api.OK || h != (api.Head{Kind: api.KTable, Count: 1, Batch: 1<<31 - 1, Lpn: 34, Len: 218}) {
		t.Fatalf("%v, error %d", h, e)
	}
	want := slices.Concat([]byte{255, 255, 255, 255, 3}, bytes.Repeat([]byte{255}, 68), []byte{36})
	for n := range byte(36) {
		want = append(want, 127, 255, 255, 220+n)
	}
	if data != string(want) {
		t.Errorf("%q\nnot %q", data, want)
	}
}

// P16.1: a table's head has its Seq, how many Wear, and how long the data are, and nothing else of it.
func TestPutOfHeads(t *testing.T) {
	for _, x := range many() {
		h, data, e := page.Get(put(t, x))
		want := api.Head{Kind: api.KTable, Index: 0, Count: 1, Batch: x.Seq, Open: 0, Lpn: len(x.Wear), Len: 74 + 4*len(x.Void)}
		if h != want || len(data) != want.Len || e != api.OK {
			t.Fatalf("of %v: %v, %d bytes, error %d", x, h, len(data), e)
		}
	}
}

// P16.1: each block that is bad has a bit of its own, the first one the lowest one of the first byte.
func TestPutOfEachBad(t *testing.T) {
	for b := range 34 {
		_, data, _ := page.Get(put(t, api.Table{Bad: []int{b}}))
		want := make([]byte, 74)
		want[b/8] = []byte{1, 2, 4, 8, 16, 32, 64, 128}[b%8]
		if data != string(want) {
			t.Errorf("Bad %d: %q", b, data)
		}
	}
}

// P16.1: each Wear has two bytes of its own, the highest first.
func TestPutOfEachWear(t *testing.T) {
	for b := range 34 {
		wear := make([]int, b+1)
		wear[b] = 0x1234
		h, data, _ := page.Get(put(t, api.Table{Wear: wear}))
		want := make([]byte, 74)
		want[5+2*b], want[6+2*b] = 0x12, 0x34
		if data != string(want) || h.Lpn != b+1 {
			t.Errorf("Wear of block %d: Lpn %d, %q", b, h.Lpn, data)
		}
	}
}

// P16.1: Void have four bytes each, behind how many there are.
func TestPutOfEachVoid(t *testing.T) {
	for n := range 37 {
		h, data, _ := page.Get(put(t, api.Table{Void: steps(n, 0x01020304, 0x01010101)}))
		want := append(make([]byte, 73), byte(n))
		for i := range byte(n) {
			want = append(want, 1+i, 2+i, 3+i, 4+i)
		}
		if data != string(want) || h.Len != 74+4*n {
			t.Errorf("%d Void: Len %d, %q", n, h.Len, data)
		}
	}
	for _, n := range longs() {
		if n < 1<<31 {
			_, data, _ := page.Get(put(t, api.Table{Void: []uint64{n}}))
			if data != string(slices.Concat(make([]byte, 73), []byte{1}, number(4, n))) {
				t.Errorf("Void %d: %q", n, data)
			}
		}
	}
}

// P16.1: the pages of many tables.
func TestPut(t *testing.T) {
	for _, x := range many() {
		if b := put(t, x); !bytes.Equal(b, laid(x)) {
			t.Fatalf("Put(%v) = %d\nnot %d", x, b, laid(x))
		}
	}
	d := dice(162)
	for range 2000 {
		x := d.table()
		if b := put(t, x); !bytes.Equal(b, laid(x)) {
			t.Fatalf("Put(%v) = %d\nnot %d", x, b, laid(x))
		}
	}
}

// P16.1: a table that may not be has no page.
func TestPutOfWrong(t *testing.T) {
	for _, x := range wrong() {
		if b, e := table.Put(x); e != api.ErrRange || len(b) != 0 {
			t.Errorf("Put(%v) = %d, error %d", x, b, e)
		}
	}
}
