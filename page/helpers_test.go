package page_test

import (
	"bytes"
	"math"
	"math/bits"
	"slices"
	"strings"
	"testing"

	"wagtail/api"
	"wagtail/page"
)

// ints are numbers at the edges of a head's numbers, of bytes and words, and of int itself.
func ints() []int {
	l := []int{math.MinInt, math.MinInt + 1, math.MinInt + 3, math.MinInt / 2, -1 << 32, -1<<32 + 1, -1 << 31, -1<<31 + 3, -65536, -65535, -257, -256, -255, -253, -228, -16, -5, -2, -1}
	for n := range 19 {
		l = append(l, n)
	}
	return append(l, 127, 128, 227, 228, 229, 230, 252, 255, 256, 257, 259, 256+16, 256+228, 32767, 32768, 65534, 65535, 65536, 65537, 65536+3, 1<<31-1, 1<<31, 1<<32, 1<<32+1, 1<<32+3, 1<<62, math.MaxInt-1, math.MaxInt)
}

// longs are numbers at the edges of Batch and Open, of bytes and words, and of uint64 itself.
func longs() []uint64 {
	return []uint64{0, 1, 2, 127, 128, 255, 256, 257, 65535, 65536, 1<<24 - 1, 1 << 24, 0x01020304, 0x70809010, 1<<31 - 2, 1<<31 - 1, 1 << 31, 1<<31 + 1, 1<<32 - 1, 1 << 32, 1<<32 + 5, 1<<56 + 1, 1<<63 - 1, 1 << 63, 1<<63 + 7, math.MaxUint64 - 1, math.MaxUint64}
}

// head is a head of all its numbers.
func head(kind, index, count int, batch, open uint64, lpn, size int) api.Head {
	return api.Head{Kind: kind, Index: index, Count: count, Batch: batch, Open: open, Lpn: lpn, Len: size}
}

// mayBe tells whether a head may be, as the chapter's Words say.
func mayBe(h api.Head) bool {
	return h.Kind >= 1 && h.Kind <= 5 && h.Count >= 1 && h.Count <= 16 && h.Index >= 0 && h.Index < h.Count &&
		h.Batch < 2147483648 && h.Open < 2147483648 && h.Lpn >= 0 && h.Lpn <= 65535 && h.Len >= 0 && h.Len <= 228
}

// few are some heads that may be: of the least numbers, of the greatest ones, and others.
func few() []api.Head {
	return []api.Head{
		head(1, 0, 1, 0, 0, 0, 0),
		head(5, 15, 16, 1<<31-1, 1<<31-1, 65535, 228),
		head(3, 2, 14, 0x01020304, 0x05060708, 0x1122, 228),
		head(4, 0, 1, 7, 3, 9, 3),
		head(2, 6, 16, 1<<30, 255, 256, 0),
		head(5, 1, 2, 65536, 1, 255, 1),
		head(1, 15, 16, 255, 1<<31-1, 65534, 227),
		head(2, 0, 16, 0x55555555, 0x2aaaaaaa, 0xaaaa, 100),
	}
}

// heads are heads that may be: those few, and each with each of its numbers another one.
func heads() []api.Head {
	var l []api.Head
	for _, h := range few() {
		for _, x := range others(h) {
			if mayBe(x) {
				l = append(l, x)
			}
		}
	}
	return l
}

// others are a head, and what it is with each of its numbers another one, one at a time, whether it may be or not.
func others(h api.Head) []api.Head {
	l := []api.Head{h}
	for _, n := range ints() {
		for _, field := range []func(x *api.Head) *int{kindOf, indexOf, countOf, lpnOf, lenOf} {
			x := h
			*field(&x) = n
			l = append(l, x)
		}
	}
	for _, n := range longs() {
		for _, field := range []func(x *api.Head) *uint64{batchOf, openOf} {
			x := h
			*field(&x) = n
			l = append(l, x)
		}
	}
	return l
}

// A head's numbers.
func kindOf(h *api.Head) *int     { return &h.Kind }
func indexOf(h *api.Head) *int    { return &h.Index }
func countOf(h *api.Head) *int    { return &h.Count }
func lpnOf(h *api.Head) *int      { return &h.Lpn }
func lenOf(h *api.Head) *int      { return &h.Len }
func batchOf(h *api.Head) *uint64 { return &h.Batch }
func openOf(h *api.Head) *uint64  { return &h.Open }

// texts are data of so many bytes: all 0, all 255, all bytes in a row, from each end, and others.
func texts(n int) []string {
	l := []string{strings.Repeat("\x00", n), strings.Repeat("\xff", n)}
	for _, step := range []byte{1, 255, 37, 113} {
		b := make([]byte, n)
		for i := range b {
			b[i] = byte(i)*step ^ byte(i>>3)
		}
		l = append(l, string(b))
	}
	if n > 0 {
		l = append(l, strings.Repeat("\xff", n-1)+"\x00", "\x00"+strings.Repeat("\xff", n-1), strings.Repeat("x", n-1)+"\xff", "\xff"+strings.Repeat("x", n-1))
	}
	return l
}

// number are the bytes of a number, so many, the highest first.
func number(w int, n uint64) []byte {
	b := make([]byte, w)
	for i := range b {
		b[w-1-i] = byte(n >> (8 * i))
	}
	return b
}

// bare are the first 252 bytes of a page as the chapter's Words say, whatever its numbers are, as far as the bytes have room for them.
func bare(h api.Head, data string) []byte {
	b := slices.Concat(number(1, uint64(h.Kind)), number(1, uint64(h.Index)), number(1, uint64(h.Count)), []byte{0}, number(8, h.Batch), number(8, h.Open), number(2, uint64(h.Lpn)), number(2, uint64(h.Len)), []byte(data))
	for len(b) < 252 {
		b = append(b, 255)
	}
	return b[:252]
}

// sealed are 252 bytes, and how many of their bits are 0.
func sealed(b []byte) []byte {
	n := 0
	for _, x := range b[:252] {
		n += 8 - bits.OnesCount8(x)
	}
	return slices.Concat(b[:252], number(4, uint64(n)))
}

// laid are a page's bytes, as the chapter's Words say.
func laid(h api.Head, data string) []byte {
	return sealed(bare(h, data))
}

// blank are the bytes of a page that was never programmed.
func blank() []byte {
	return bytes.Repeat([]byte{255}, 256)
}

// got is the number whose bytes stand at a place.
func got(b []byte, at, w int) uint64 {
	n := uint64(0)
	for _, x := range b[at : at+w] {
		n = n*256 + uint64(x)
	}
	return n
}

// look is what a page's bytes are: its class, and, if it is a right one, its head and data.
type look struct {
	class int
	h     api.Head
	data  string
}

// meant is what bytes are, as the chapter says, told by each of a page's bytes by itself.
func meant(b []byte) look {
	if bytes.Equal(b, blank()) {
		return look{class: page.Blank}
	}
	if len(b) != 256 {
		return look{class: page.Torn}
	}
	h := head(int(b[0]), int(b[1]), int(b[2]), got(b, 4, 8), got(b, 12, 8), int(got(b, 20, 2)), int(got(b, 22, 2)))
	if !mayBe(h) || b[3] != 0 || !bytes.Equal(b, sealed(b)) {
		return look{class: page.Torn}
	}
	for _, x := range b[24+h.Len : 252] {
		if x != 255 {
			return look{class: page.Torn}
		}
	}
	return look{page.Right, h, string(b[24 : 24+h.Len])}
}

// ends are how Get ends, of each class.
var ends = map[int]api.Errno{page.Blank: api.ErrNone, page.Right: api.OK, page.Torn: api.ErrForm}

// hold holds what Class, Get and Classes tell of bytes against what they are, and tells their class.
func hold(t *testing.T, b []byte) int {
	t.Helper()
	want := meant(b)
	if c := page.Class(b); c != want.class {
		t.Fatalf("Class(%d) = %d, not %d", b, c, want.class)
	}
	h, data, e := page.Get(b)
	if h != want.h || data != want.data || e != ends[want.class] {
		t.Fatalf("Get(%d) = %v, %q, error %d; not %v, %q, %d", b, h, data, e, want.h, want.data, ends[want.class])
	}
	one := [3]int{}
	one[want.class]++
	if n := page.Classes(b); n != one {
		t.Fatalf("Classes(%d) = %d", b, n)
	}
	return want.class
}

// put is a page that there may be.
func put(t *testing.T, h api.Head, data string) []byte {
	t.Helper()
	b, e := page.Put(h, data)
	if e != api.OK || len(b) != 256 {
		t.Fatalf("Put(%v, %q): %d bytes, error %d", h, data, len(b), e)
	}
	return b
}

// pages are some pages' bytes: those few heads, with data of all kinds.
func pages(t *testing.T) [][]byte {
	t.Helper()
	var l [][]byte
	for _, h := range few() {
		for _, data := range texts(h.Len) {
			l = append(l, put(t, h, data))
		}
	}
	return l
}

// dice are numbers from a rule, others of each seed.
type dice uint32

// below is the next number, from 0 on, below n.
func (x *dice) below(n int) int {
	*x = *x*1664525 + 1013904223
	return int(*x>>8) % n
}

// bytes are so many bytes, each bit of which is 1 in one of 2^spread, or, of a spread below 0, in all but one of as many.
func (x *dice) bytes(n, spread int) []byte {
	b := make([]byte, n)
	for i := range b {
		b[i] = byte(x.below(256))
		for range max(spread, -spread) - 1 {
			b[i] &= byte(x.below(256))
		}
		if spread < 0 {
			b[i] = ^b[i]
		}
	}
	return b
}

// head is a head that may be.
func (x *dice) head() api.Head {
	count := 1 + x.below(16)
	return head(1+x.below(5), x.below(count), count, uint64(x.below(1<<16))<<15+uint64(x.below(1<<15)), uint64(x.below(1<<16))<<15+uint64(x.below(1<<15)), x.below(65536), x.below(229))
}
