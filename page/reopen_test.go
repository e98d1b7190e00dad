package page_test

import (
	"bytes"
	"math"
	"slices"
	"testing"

	"wagtail/api"
	"wagtail/page"
)

// P15.3: the same page with another Open.
func TestReopen(t *testing.T) {
	for _, h := range few() {
		for _, data := range texts(h.Len) {
			was := put(t, h, data)
			for _, open := range longs() {
				b, e := page.Reopen(was, open)
				if open >= 1<<31 {
					if e != api.ErrRange || len(b) != 0 {
						t.Fatalf("Open %d: %d bytes, error %d", open, len(b), e)
					}
					continue
				}
				x := h
				x.Open = open
				if e != api.OK || !bytes.Equal(b, laid(x, data)) {
					t.Fatalf("Open %d of %v: error %d, %d\nnot %d", open, h, e, b, laid(x, data))
				}
			}
		}
	}
}

// P15.3: all of the page but Open, and the count of its bits, stays; with its own Open all does.
func TestReopenChangesNothingElse(t *testing.T) {
	for _, was := range pages(t) {
		h, data, _ := page.Get(was)
		for _, open := range []uint64{0, 1, h.Open, h.Open ^ 1, 1<<31 - 1} {
			b, e := page.Reopen(was, open)
			if e != api.OK || page.Class(b) != page.Right || !bytes.Equal(b[:12], was[:12]) || !bytes.Equal(b[20:252], was[20:252]) {
				t.Fatalf("%d became %d, error %d", was, b, e)
			}
			x, d, _ := page.Get(b)
			if h.Open = open; x != h || d != data {
				t.Fatalf("%v, %q; not %v, %q", x, d, h, data)
			}
		}
		h, _, _ = page.Get(was)
		if b, e := page.Reopen(was, h.Open); e != api.OK || !bytes.Equal(b, was) {
			t.Fatalf("%d became %d, error %d", was, b, e)
		}
	}
}

// P15.3: again and again, as if once.
func TestReopenAgain(t *testing.T) {
	for _, was := range pages(t)[:20] {
		b := was
		for _, open := range []uint64{5, 1<<31 - 1, 0, 256, 77} {
			b, _ = page.Reopen(b, open)
		}
		once, e := page.Reopen(was, 77)
		if e != api.OK || !bytes.Equal(b, once) {
			t.Errorf("%d, and once %d, error %d", b, once, e)
		}
	}
}

// P15.3: a page that is not Right, a blank one too, whatever Open would be, ahead of an Open that may not be.
func TestReopenOfWrongPages(t *testing.T) {
	right := pages(t)[7]
	torn := slices.Clone(right)
	torn[3] |= 7
	turned := slices.Clone(right)
	turned[252] ^= 1
	wrong := laid(head(0, 0, 1, 0, 0, 0, 0), "")
	late := laid(head(3, 0, 1, 0, 1<<31, 0, 0), "")
	for _, b := range [][]byte{nil, {}, blank(), blank()[:255], append(blank(), 255), make([]byte, 256), right[:255], right[:252], append(slices.Clone(right), 255), torn, turned, wrong, late} {
		for _, open := range longs() {
			got, e := page.Reopen(b, open)
			if e != api.ErrForm || len(got) != 0 {
				t.Errorf("%d bytes, Open %d: %d bytes, error %d", len(b), open, len(got), e)
			}
		}
	}
}

// P15.3: 252 bytes, and behind them how many of their bits are 0.
func TestSeal(t *testing.T) {
	for n, b := range map[int][]byte{0: blank()[:252], 2016: make([]byte, 252), 1008: bytes.Repeat([]byte{15, 240, 85}, 84), 2015: append(make([]byte, 251), 64), 1: append(bytes.Repeat([]byte{255}, 251), 254), 8: append([]byte{0}, blank()[:251]...)} {
		got := page.Seal(b)
		if !bytes.Equal(got, slices.Concat(b, []byte{0, 0, byte(n / 256), byte(n % 256)})) {
			t.Errorf("%d bits: %d", n, got)
		}
	}
	x := dice(3)
	for i := range 2000 {
		b := x.bytes(252, i%9-4)
		if got := page.Seal(b); !bytes.Equal(got, sealed(b)) {
			t.Fatalf("Seal(%d) = %d\nnot %d", b, got, sealed(b))
		}
	}
	for _, b := range pages(t) {
		if got := page.Seal(b[:252]); !bytes.Equal(got, b) {
			t.Fatalf("%d became %d", b, got)
		}
	}
}

// P15.3: nothing of bytes of another length.
func TestSealOfOtherLengths(t *testing.T) {
	if got := page.Seal(nil); len(got) != 0 {
		t.Errorf("of nil: %d", got)
	}
	for n := range 600 {
		for _, of := range []byte{0, 170, 255} {
			if got := page.Seal(bytes.Repeat([]byte{of}, n)); n != 252 && len(got) != 0 || n == 252 && len(got) != 256 {
				t.Errorf("of %d bytes: %d bytes", n, len(got))
			}
		}
	}
	for _, n := range []int{65536, 65536 + 252, 1<<20 + 252} {
		if got := page.Seal(make([]byte, n)); len(got) != 0 {
			t.Errorf("of %d bytes: %d bytes", n, len(got))
		}
	}
	room := make([]byte, 300)
	if len(page.Seal(room[:251:252])) != 0 || len(page.Seal(room[:252:253])) != 256 || len(page.Seal(room[:253])) != 0 {
		t.Error("spare room counts")
	}
}

// P15.3: an Open that may not be, to the type's end, of pages that are right.
func TestReopenOfGreatOpens(t *testing.T) {
	for _, was := range pages(t)[:6] {
		for i := range 33 {
			for _, open := range []uint64{1 << (31 + i), 1<<(31+i) + 5, 1<<(31+i) + 1<<31 - 1, math.MaxUint64 << (31 + i)} {
				if b, e := page.Reopen(was, open); e != api.ErrRange || len(b) != 0 {
					t.Errorf("Open %d: %d bytes, error %d", open, len(b), e)
				}
			}
		}
	}
}
