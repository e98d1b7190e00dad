package page_test

import (
	"bytes"
	"slices"
	"strings"
	"testing"

	"wagtail/api"
	"wagtail/page"
)

// P15.1: a page's bytes, each written out.
func TestPutWrittenOut(t *testing.T) {
	h := api.Head{Kind: api.KMeta, Index: 2, Count: 3, Batch: 0x01020304, Open: 5, Lpn: 0x0607, Len: 4}
	want := slices.Concat(
		[]byte{4, 2, 3, 0},
		[]byte{0, 0, 0, 0, 1, 2, 3, 4},
		[]byte{0, 0, 0, 0, 0, 0, 0, 5},
		[]byte{6, 7, 0, 4},
		[]byte{0, 255, 15, 97},
		bytes.Repeat([]byte{255}, 224),
		// Bits that are 0: 7+7+6+8, 32+7+7+6+7, 62, 6+5+8+7, 8+0+4+5.
		[]byte{0, 0, 0, 28 + 59 + 62 + 26 + 17},
	)
	if len(want) != api.PageSize {
		t.Fatal(len(want))
	}
	b := put(t, h, "\x00\xff\x0fa")
	if !bytes.Equal(b, want) {
		t.Errorf("%d\nnot %d", b, want)
	}
}

// P15.1: the page that has the most bits that are 0, and that whose numbers are the greatest.
func TestPutOfTheEnds(t *testing.T) {
	b := put(t, head(1, 0, 1, 0, 0, 0, 228), strings.Repeat("\x00", 228))
	// 252 bytes of 8 bits, of which Kind and Count have one each, and Len, 228, has four.
	if n := 252*8 - 1 - 1 - 4; !bytes.Equal(b[252:], []byte{0, 0, byte(n >> 8), byte(n & 255)}) {
		t.Errorf("the count is %d, not %d", b[252:], n)
	}
	b = put(t, head(5, 15, 16, 1<<31-1, 1<<31-1, 65535, 228), strings.Repeat("\xff", 228))
	want := []byte{5, 15, 16, 0, 0, 0, 0, 0, 127, 255, 255, 255, 0, 0, 0, 0, 127, 255, 255, 255, 255, 255, 0, 228}
	if !bytes.Equal(b[:24], want) || !bytes.Equal(b[24:252], blank()[:228]) {
		t.Errorf("%d", b)
	}
	// 6, 4, 7, 8, 33, 33, 0, 8, and 4 bits.
	if !bytes.Equal(b[252:], []byte{0, 0, 0, 103}) {
		t.Errorf("the count is %d", b[252:])
	}
}

// P15.1: a page's bytes, of all heads, and data of all kinds.
func TestPut(t *testing.T) {
	for _, h := range heads() {
		for _, data := range texts(h.Len) {
			if b := put(t, h, data); !bytes.Equal(b, laid(h, data)) {
				t.Fatalf("Put(%v, %q) = %d\nnot %d", h, data, b, laid(h, data))
			}
		}
	}
}

// P15.1: a page's bytes of many heads, and of data of each length.
func TestPutOfMany(t *testing.T) {
	x := dice(15)
	for i := range 3000 {
		h := x.head()
		h.Len = i % 229
		data := string(x.bytes(h.Len, i%7-3))
		if b := put(t, h, data); !bytes.Equal(b, laid(h, data)) {
			t.Fatalf("Put(%v, %q) = %d\nnot %d", h, data, b, laid(h, data))
		}
	}
}

// P15.1: data that have not Len bytes, fewer or more, are refused.
func TestPutOfDataOfAnotherLength(t *testing.T) {
	lengths := []int{0, 1, 2, 3, 4, 99, 100, 101, 226, 227, 228, 229, 230, 252, 255, 256, 257, 300, 484, 65536, 65536 + 3}
	for _, h := range few() {
		for _, size := range []int{0, 1, 3, 100, 227, 228} {
			h.Len = size
			for _, n := range lengths {
				for _, of := range []string{"x", "\x00", "\xff"} {
					b, e := page.Put(h, strings.Repeat(of, n))
					if n == size && (e != api.OK || len(b) != 256) {
						t.Errorf("%d bytes, of Len %d: error %d", n, size, e)
					}
					if n != size && (e != api.ErrRange || len(b) != 0) {
						t.Errorf("%d bytes, of Len %d: %d bytes, error %d", n, size, len(b), e)
					}
				}
			}
		}
	}
}

// P15.1: Len and the data's length are the same, and may not be; and a head that may not be, with data of another length.
func TestPutOfWrongHeads(t *testing.T) {
	for _, n := range []int{229, 230, 232, 256, 300, 65535, 65536} {
		if b, e := page.Put(head(3, 0, 1, 0, 0, 0, n), strings.Repeat("x", n)); e != api.ErrRange || len(b) != 0 {
			t.Errorf("Len %d: %d bytes, error %d", n, len(b), e)
		}
	}
	for _, h := range few() {
		for _, x := range others(h) {
			for _, n := range []int{0, 1, 3, 228, 229, 256} {
				b, e := page.Put(x, strings.Repeat("a", n))
				if right := mayBe(x) && x.Len == n; right != (e == api.OK) || !right && (e != api.ErrRange || len(b) != 0) {
					t.Fatalf("Put(%v) of %d bytes: %d bytes, error %d", x, n, len(b), e)
				}
			}
		}
	}
}

// P15.1, P15.2: what is put is got again, and is Right.
func TestBack(t *testing.T) {
	for _, h := range heads() {
		for _, data := range texts(h.Len) {
			b := put(t, h, data)
			x, d, e := page.Get(b)
			if x != h || d != data || e != api.OK || page.Class(b) != page.Right {
				t.Fatalf("of %v, %q: %v, %q, error %d, class %d", h, data, x, d, e, page.Class(b))
			}
		}
	}
}
