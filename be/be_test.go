package be_test

import (
	"bytes"
	"encoding/binary"
	"math"
	"slices"
	"testing"

	"wagtail/be"
)

// long is a number of which each byte is another one.
const long = 0x0102030405060708

// samples are numbers at whose widths something changes, and some within.
func samples() []uint64 {
	l := []uint64{0, 1, 258, long, math.MaxUint64, 0x80}
	for w := 1; w < 8; w++ {
		edge := uint64(1) << (8 * w)
		l = append(l, edge-1, edge, edge+1, edge<<7)
	}
	return l
}

// lowest tells the lowest w bytes of a number, by the library's own way.
func lowest(n uint64, w int) []byte {
	return binary.BigEndian.AppendUint64(nil, n)[8-w:]
}

// P1.1: Put lays the lowest w bytes, the highest first, behind b.
func TestPutLaysLowestBytesBehind(t *testing.T) {
	if got := be.Put(nil, 2, 258); !bytes.Equal(got, []byte{1, 2}) {
		t.Error("the chapter's example:", got)
	}
	for _, b := range [][]byte{nil, {}, {9}, {255, 0, 7}} {
		for _, n := range samples() {
			for w := 1; w <= 8; w++ {
				want := slices.Concat(b, lowest(n, w))
				if got := be.Put(b, w, n); !bytes.Equal(got, want) {
					t.Errorf("Put(%v, %d, %#x) = %v, not %v", b, w, n, got, want)
				}
			}
		}
	}
}

// P1.1: a width below 1 lays none, one above 8 is as 8.
func TestPutOfOddWidths(t *testing.T) {
	for _, w := range []int{0, -1, -8, math.MinInt, math.MinInt32} {
		if got := be.Put([]byte{5, 6}, w, long); !bytes.Equal(got, []byte{5, 6}) {
			t.Errorf("width %d: %v", w, got)
		}
		if got := be.Put(nil, w, long); len(got) != 0 {
			t.Errorf("width %d, of nothing: %v", w, got)
		}
	}
	for _, w := range []int{9, 16, 64, 256, math.MaxInt32, math.MaxInt} {
		if got := be.Put([]byte{5}, w, long); !bytes.Equal(got, []byte{5, 1, 2, 3, 4, 5, 6, 7, 8}) {
			t.Errorf("width %d: %v", w, got)
		}
	}
}

// R3: Put changes neither b nor its spare room, and its answer is new memory, whatever the width.
func TestPutAnswersNewMemory(t *testing.T) {
	for _, w := range []int{-1, 0, 1, 8, 9} {
		room := bytes.Repeat([]byte{170}, 20)
		got := be.Put(room[:3], w, long)
		for i := range got {
			got[i] = 1
		}
		_ = append(got, 1, 1, 1)
		if !bytes.Equal(room, bytes.Repeat([]byte{170}, 20)) {
			t.Errorf("width %d: b is another one: %v", w, room)
		}
	}
}

// R3: answers made on one b stand each by itself.
func TestPutTwiceOnOneRow(t *testing.T) {
	b := be.Put(nil, 3, 1)
	x, y := be.Put(b, 2, 258), be.Put(b, 2, 772)
	if !bytes.Equal(x, []byte{0, 0, 1, 1, 2}) || !bytes.Equal(y, []byte{0, 0, 1, 3, 4}) {
		t.Error(x, y)
	}
}

// P1.1: Get reads the number whose bytes stand from at on.
func TestGetReadsFromAt(t *testing.T) {
	b := []byte{1, 2, 3, 4, 5, 6, 7, 8, 9, 250}
	for _, c := range []struct {
		at, w int
		want  uint64
	}{
		{0, 1, 1}, {9, 1, 250}, {0, 2, 258}, {3, 3, 0x040506}, {0, 8, long},
		{2, 8, 0x03040506070809fa}, {6, 4, 0x070809fa},
	} {
		if got := be.Get(b, c.at, c.w); got != c.want {
			t.Errorf("Get(b, %d, %d) = %#x, not %#x", c.at, c.w, got, c.want)
		}
	}
}

// P1.1: bytes that are not there, behind the end or ahead of the beginning, count as 0.
func TestGetOfBytesThatAreNotThere(t *testing.T) {
	b := []byte{1, 2, 3}
	for _, c := range []struct {
		at, w int
		want  uint64
	}{
		{2, 2, 0x0300}, {2, 8, 3 << 56}, {1, 4, 0x02030000}, {0, 8, 0x010203 << 40},
		{3, 1, 0}, {3, 8, 0}, {4, 2, 0}, {100, 8, 0},
		{-1, 1, 0}, {-1, 2, 1}, {-1, 3, 0x0102}, {-1, 8, 0x010203 << 32}, {-2, 2, 0},
		{-5, 8, 0x010203}, {-6, 8, 0x0102}, {-7, 8, 1}, {-8, 8, 0}, {-9, 8, 0},
		{math.MaxInt, 1, 0}, {math.MaxInt, 8, 0}, {math.MaxInt - 6, 8, 0}, {math.MaxInt32, 8, 0},
		{math.MinInt, 1, 0}, {math.MinInt, 8, 0}, {math.MinInt + 7, 8, 0}, {math.MinInt32, 8, 0},
	} {
		if got := be.Get(b, c.at, c.w); got != c.want {
			t.Errorf("Get(b, %d, %d) = %#x, not %#x", c.at, c.w, got, c.want)
		}
	}
	for _, at := range []int{-1, 0, 1, math.MinInt, math.MaxInt} {
		if be.Get(nil, at, 8) != 0 || be.Get([]byte{}, at, 1) != 0 {
			t.Errorf("of nothing, at %d: there is a number", at)
		}
	}
}

// P1.1: of Get's spare room nothing counts: it is not there.
func TestGetLooksAtNoSpareRoom(t *testing.T) {
	b := []byte{1, 2, 3, 4}
	if got := be.Get(b[:2], 1, 2); got != 0x0200 {
		t.Errorf("%#x", got)
	}
}

// P1.1: Get's widths are as Put's.
func TestGetOfOddWidths(t *testing.T) {
	b := []byte{1, 2, 3, 4, 5, 6, 7, 8, 9}
	for _, w := range []int{0, -1, -8, math.MinInt} {
		for _, at := range []int{-1, 0, 4, 9} {
			if got := be.Get(b, at, w); got != 0 {
				t.Errorf("at %d, width %d: %#x", at, w, got)
			}
		}
	}
	for _, w := range []int{9, 64, 256, math.MaxInt} {
		for _, at := range []int{-7, -1, 0, 1, 5, 8} {
			if got, want := be.Get(b, at, w), be.Get(b, at, 8); got != want {
				t.Errorf("at %d, width %d: %#x, not %#x", at, w, got, want)
			}
		}
	}
}

// R3: Get leaves its bytes as they are.
func TestGetChangesNothing(t *testing.T) {
	b := []byte{1, 2, 3}
	be.Get(b, -2, 8)
	be.Get(b, 1, 8)
	if !bytes.Equal(b, []byte{1, 2, 3}) {
		t.Error(b)
	}
}

// P1.1: Row lays all the numbers, each behind its width.
func TestRowLaysAllPairs(t *testing.T) {
	got := be.Row(1, 7, 2, 258, 4, 65536, 8, long)
	want := []byte{7, 1, 2, 0, 1, 0, 0, 1, 2, 3, 4, 5, 6, 7, 8}
	if !bytes.Equal(got, want) {
		t.Errorf("%v, not %v", got, want)
	}
	var pairs []uint64
	want = nil
	for _, n := range samples() {
		for w := 1; w <= 8; w++ {
			pairs = append(pairs, uint64(w), n)
			want = append(want, lowest(n, w)...)
		}
	}
	if got := be.Row(pairs...); !bytes.Equal(got, want) {
		t.Error("many pairs: other bytes")
	}
}

// P1.1: Row's widths are as Put's, in the whole range of their type.
func TestRowOfOddWidths(t *testing.T) {
	if got := be.Row(0, long, 1, 3, 0, 4); !bytes.Equal(got, []byte{3}) {
		t.Error("width 0:", got)
	}
	for _, w := range []uint64{9, 255, 256, 1 << 31, 1<<32 + 1, math.MaxInt64, 1 << 63, 1<<63 + 2, math.MaxUint64} {
		if got := be.Row(w, long, 1, 9); !bytes.Equal(got, []byte{1, 2, 3, 4, 5, 6, 7, 8, 9}) {
			t.Errorf("width %d: %v", w, got)
		}
	}
}

// P1.1: one number alone at the end counts for nothing.
func TestRowOfOneAlone(t *testing.T) {
	for _, pairs := range [][]uint64{nil, {}, {0}, {1}, {8}, {math.MaxUint64}} {
		if got := be.Row(pairs...); len(got) != 0 {
			t.Errorf("Row(%v) = %v", pairs, got)
		}
	}
	for _, alone := range []uint64{0, 1, 2, 8, 9, math.MaxUint64} {
		if got := be.Row(2, 258, 1, 5, alone); !bytes.Equal(got, []byte{1, 2, 5}) {
			t.Errorf("%d alone: %v", alone, got)
		}
	}
}

// R3: Row leaves the numbers as they are, and its answers are new memory.
func TestRowAnswersNewMemory(t *testing.T) {
	pairs := []uint64{2, 258, 9, 1, 77}
	x, y := be.Row(pairs...), be.Row(pairs...)
	clear(x)
	if !bytes.Equal(y, []byte{1, 2, 0, 0, 0, 0, 0, 0, 0, 1}) {
		t.Error(y)
	}
	if !slices.Equal(pairs, []uint64{2, 258, 9, 1, 77}) {
		t.Error(pairs)
	}
}

// P1.3: Get of Put is the number's lowest bytes, wherever they are laid.
func TestGetOfPutIsBack(t *testing.T) {
	for _, b := range [][]byte{nil, {9}, {0, 255, 3, 4, 5, 6, 7, 8, 9}} {
		for _, n := range samples() {
			for w := -1; w <= 10; w++ {
				want := n
				if w < 8 {
					want = n % (1 << (8 * max(w, 0)))
				}
				if got := be.Get(be.Put(b, w, n), len(b), w); got != want {
					t.Errorf("width %d, %#x behind %d bytes: back is %#x", w, n, len(b), got)
				}
			}
		}
	}
}

// P1.3: back, for widths at the ends of their type.
func TestGetOfPutIsBackForOddWidths(t *testing.T) {
	for _, n := range samples() {
		if got := be.Get(be.Put(nil, math.MaxInt, n), 0, math.MaxInt); got != n {
			t.Errorf("%#x: back is %#x", n, got)
		}
		if got := be.Get(be.Put(nil, math.MinInt, n), 0, math.MinInt); got != 0 {
			t.Errorf("%#x: back is %#x", n, got)
		}
	}
}
