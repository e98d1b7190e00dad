package crc_test

import (
	"bytes"
	"hash/crc32"
	"math"
	"math/bits"
	"slices"
	"testing"

	"wagtail/api"
	"wagtail/crc"
)

// digits are the bytes of the chapter's example.
const digits = "123456789"

// row tells n bytes of many looks.
func row(n int, step byte) []byte {
	b := make([]byte, n)
	for i := range b {
		b[i] = byte(i)*step ^ byte(i>>3)
	}
	return b
}

// rows are lists of bytes of many lengths, none and one among them; those of one length are of several looks.
func rows() [][]byte {
	l := [][]byte{nil, {}, {0}, {1}, {128}, {255}, {0, 0}, {255, 255}, []byte(digits)}
	for _, n := range []int{2, 3, 4, 5, 8, 17, 32, 100, 228, 256} {
		for _, step := range []byte{1, 37, 113} {
			l = append(l, row(n, step))
		}
		l = append(l, make([]byte, n), bytes.Repeat([]byte{255}, n))
	}
	return append(l, row(api.MaxBundle, 91))
}

// shortSums are short sums so far: the ends of their type, each bit alone, and some more.
func shortSums() []uint16 {
	l := []uint16{0, math.MaxUint16, math.MaxUint16 - 1, 0x906e, 0x8408, 0x7bf7, 0x1234}
	for i := range 16 {
		l = append(l, 1<<i)
	}
	return l
}

// longSums are long sums so far: the ends of their type, each bit alone, and some more.
func longSums() []uint32 {
	l := []uint32{0, math.MaxUint32, math.MaxUint32 - 1, math.MaxUint16, 0xe3069283, 0x82f63b78, 0x7d09c487, 0x12345678}
	for i := range 32 {
		l = append(l, 1<<i)
	}
	return l
}

// divided tells a short sum, gone on with b, the other way round: the bits go to the left, and the number is 1021.
func divided(s uint16, b []byte) uint16 {
	s = bits.Reverse16(^s)
	for _, x := range b {
		for i := range 8 {
			top := s>>15 ^ uint16(x>>i&1)
			s = s<<1 ^ top*0x1021
		}
	}
	return ^bits.Reverse16(s)
}

// library tells a long sum, gone on with b, by the library's own way.
func library(s uint32, b []byte) uint32 {
	return crc32.Update(s, crc32.MakeTable(crc32.Castagnoli), b)
}

// P3.1: the chapter's example; nothing has the sum 0.
func TestTheExample(t *testing.T) {
	if s, l := crc.Short([]byte(digits)), crc.Long([]byte(digits)); s != 0x906e || l != 0xe3069283 {
		t.Errorf("%#x, %#x", s, l)
	}
	for _, b := range [][]byte{nil, {}} {
		if s, l := crc.Short(b), crc.Long(b); s != 0 || l != 0 {
			t.Errorf("of nothing: %#x, %#x", s, l)
		}
	}
}

// P3.1: long sums that are known from elsewhere (RFC 3720, B.4).
func TestKnownLongSums(t *testing.T) {
	rising := make([]byte, 32)
	for i := range rising {
		rising[i] = byte(i)
	}
	falling := slices.Clone(rising)
	slices.Reverse(falling)
	for _, c := range []struct {
		b    []byte
		want uint32
	}{
		{make([]byte, 32), 0x8a9136aa}, {bytes.Repeat([]byte{255}, 32), 0x62a8ab43},
		{rising, 0x46dd794e}, {falling, 0x113fdb5c},
	} {
		if got := crc.Long(c.b); got != c.want {
			t.Errorf("Long(%v) = %#x, not %#x", c.b, got, c.want)
		}
	}
}

// P3.1: the sums of all single bytes.
func TestSumsOfOneByte(t *testing.T) {
	for x := range 256 {
		b := []byte{byte(x)}
		if s, want := crc.Short(b), divided(0, b); s != want {
			t.Errorf("Short of %d: %#x, not %#x", x, s, want)
		}
		if l, want := crc.Long(b), library(0, b); l != want {
			t.Errorf("Long of %d: %#x, not %#x", x, l, want)
		}
	}
}

// P3.1: the sums of many bytes, gone on from any sum so far; Short and Long go on from 0.
func TestSumsOfManyBytes(t *testing.T) {
	for _, b := range rows() {
		for _, s := range shortSums() {
			if got, want := crc.GoShort(s, b), divided(s, b); got != want {
				t.Errorf("of %d bytes, GoShort of %#x: %#x, not %#x", len(b), s, got, want)
			}
		}
		for _, s := range longSums() {
			if got, want := crc.GoLong(s, b), library(s, b); got != want {
				t.Errorf("of %d bytes, GoLong of %#x: %#x, not %#x", len(b), s, got, want)
			}
		}
		if crc.Short(b) != divided(0, b) || crc.Long(b) != library(0, b) {
			t.Errorf("of %d bytes: Short %#x, Long %#x", len(b), crc.Short(b), crc.Long(b))
		}
	}
}

// P3.1: a byte that comes behind each short sum there is.
func TestGoShortOfEachSum(t *testing.T) {
	for s := range 1 << 16 {
		for _, x := range []byte{0, 1, 90, 255} {
			b := []byte{x}
			if got, want := crc.GoShort(uint16(s), b), divided(uint16(s), b); got != want {
				t.Fatalf("%#x gone on with %d: %#x, not %#x", s, x, got, want)
			}
		}
	}
}

// P3.1: a sum gone on with nothing is as it was.
func TestGoneOnWithNothing(t *testing.T) {
	for s := range 1 << 16 {
		if crc.GoShort(uint16(s), nil) != uint16(s) || crc.GoShort(uint16(s), []byte{}) != uint16(s) {
			t.Fatalf("short, %#x: another one", s)
		}
	}
	for _, s := range longSums() {
		if crc.GoLong(s, nil) != s || crc.GoLong(s, []byte{}) != s {
			t.Errorf("long, %#x: another one", s)
		}
	}
}

// P3.2: kind 1 is short, kind 2 long.
func TestKinds(t *testing.T) {
	if crc.Width(1) != 2 || crc.Width(2) != 4 {
		t.Error("widths:", crc.Width(1), crc.Width(2))
	}
	if crc.Of(1, []byte(digits)) != 0x906e || crc.Of(2, []byte(digits)) != 0xe3069283 {
		t.Errorf("the chapter's example: %#x, %#x", crc.Of(1, []byte(digits)), crc.Of(2, []byte(digits)))
	}
	for _, b := range rows() {
		if got, want := crc.Of(1, b), uint64(divided(0, b)); got != want {
			t.Errorf("kind 1, of %d bytes: %#x, not %#x", len(b), got, want)
		}
		if got, want := crc.Of(2, b), uint64(library(0, b)); got != want {
			t.Errorf("kind 2, of %d bytes: %#x, not %#x", len(b), got, want)
		}
	}
}

// P3.2: of other kinds there is nothing, whatever the bytes.
func TestOtherKinds(t *testing.T) {
	kinds := []int{0, 3, 4, 5, 8, 16, 32, 255, 256, 257, 258, 1<<16 + 1, 1<<16 + 2, 1 << 31, 1<<32 + 1, 1<<32 + 2}
	kinds = append(kinds, -1, -2, -3, -255, -256, math.MinInt32, math.MaxInt32, math.MaxInt, math.MaxInt-1, math.MinInt, math.MinInt+1, math.MinInt+2)
	for _, kind := range kinds {
		if w := crc.Width(kind); w != 0 {
			t.Errorf("kind %d: width %d", kind, w)
		}
		for _, b := range rows() {
			if got := crc.Of(kind, b); got != 0 {
				t.Errorf("kind %d, of %d bytes: %#x", kind, len(b), got)
			}
		}
	}
}

// P3.2: a sum has room in as many bytes as its width, and uses them all.
func TestSumsFillTheirWidths(t *testing.T) {
	for kind, bytesWide := range map[int]int{1: 2, 2: 4} {
		all := uint64(0)
		for _, b := range rows() {
			all |= crc.Of(kind, b)
		}
		if all != 1<<(8*bytesWide)-1 || crc.Width(kind) != bytesWide {
			t.Errorf("kind %d: width %d, bits %#x", kind, crc.Width(kind), all)
		}
	}
}

// P3.3: bytes cut at every place: the first ones' sum, gone on with the others, is that of all, whatever was ahead.
func TestCutAtEveryPlace(t *testing.T) {
	for _, b := range rows() {
		short, long := crc.Short(b), crc.Long(b)
		later, longer := crc.GoShort(0x1234, b), crc.GoLong(0x12345678, b)
		// Of many bytes not each place: the time is as their square.
		for at := 0; at <= len(b); at += 1 + len(b)/300 {
			a, c := b[:at], b[at:]
			if crc.GoShort(crc.Short(a), c) != short || crc.GoLong(crc.Long(a), c) != long {
				t.Errorf("%d bytes, cut at %d: another sum", len(b), at)
			}
			if crc.GoShort(crc.GoShort(0x1234, a), c) != later || crc.GoLong(crc.GoLong(0x12345678, a), c) != longer {
				t.Errorf("%d bytes, cut at %d, behind others: another sum", len(b), at)
			}
		}
	}
}

// P3.3: bytes that are gone on with one by one, and in pieces of each length, nothing in between.
func TestInManyPieces(t *testing.T) {
	for _, b := range rows() {
		for _, n := range []int{1, 2, 3, 7, 100} {
			short, long := uint16(0), uint32(0)
			for c := range slices.Chunk(b, n) {
				short = crc.GoShort(crc.GoShort(short, c), nil)
				long = crc.GoLong(crc.GoLong(long, c), nil)
			}
			if short != crc.Short(b) || long != crc.Long(b) {
				t.Errorf("%d bytes, %d by %d: other sums", len(b), n, n)
			}
		}
	}
}

// turned goes through bytes, in each of which one bit is another one, on places that are as far apart as step says.
func turned(b []byte, step int, yield func(k int, other []byte)) {
	for k := 0; k < 8*len(b); k += step {
		other := bytes.Clone(b)
		other[k/8] ^= 1 << (k % 8)
		yield(k, other)
	}
}

// P3.3: each single bit turned makes another sum, of each kind, and behind any sum so far.
func TestEachBitTurned(t *testing.T) {
	for _, b := range rows() {
		step := 1
		if len(b) > 1000 {
			step = 37
		}
		of, on := [2]uint64{crc.Of(1, b), crc.Of(2, b)}, [2]uint32{uint32(crc.GoShort(math.MaxUint16, b)), crc.GoLong(math.MaxUint32, b)}
		turned(b, step, func(k int, other []byte) {
			if crc.Of(1, other) == of[0] || crc.Of(2, other) == of[1] {
				t.Errorf("%d bytes, bit %d turned: the same sum", len(b), k)
			}
			if uint32(crc.GoShort(math.MaxUint16, other)) == on[0] || crc.GoLong(math.MaxUint32, other) == on[1] {
				t.Errorf("%d bytes, bit %d turned, behind others: the same sum", len(b), k)
			}
		})
	}
}

// P3.3: each bit of the sum so far that is turned makes another sum, too: bytes ahead count as those behind.
func TestEachBitOfTheSumSoFarTurned(t *testing.T) {
	for _, b := range rows() {
		for i := range 16 {
			if s := uint16(0x906e); crc.GoShort(s, b) == crc.GoShort(s^1<<i, b) {
				t.Errorf("%d bytes, bit %d turned: the same short sum", len(b), i)
			}
		}
		for i := range 32 {
			if s := uint32(0xe3069283); crc.GoLong(s, b) == crc.GoLong(s^1<<i, b) {
				t.Errorf("%d bytes, bit %d turned: the same long sum", len(b), i)
			}
		}
	}
}

// P3.3: of all pairs of single bytes, none has the sum of another one: that is more than one bit asks.
func TestSumsOfTwoBytesAreAllOthers(t *testing.T) {
	seen := map[uint16][2]byte{}
	for n := range 1 << 16 {
		b := [2]byte{byte(n >> 8), byte(n)}
		s := crc.Short(b[:])
		if was, ok := seen[s]; ok {
			t.Fatalf("%v and %v have the sum %#x", was, b, s)
		}
		seen[s] = b
	}
}

// R3: what is handed in is not changed, its spare room neither, and the spare room counts for nothing.
func TestNothingHandedInIsChanged(t *testing.T) {
	for _, b := range rows() {
		room := slices.Concat(b, bytes.Repeat([]byte{170}, 9))
		was, tight := bytes.Clone(room), bytes.Clone(b)
		got := room[:len(b)]
		for _, kind := range []int{-1, 0, 1, 2, 3} {
			if crc.Of(kind, got) != crc.Of(kind, tight) {
				t.Errorf("of %d bytes, kind %d: spare room counts", len(b), kind)
			}
		}
		if crc.Short(got) != crc.Short(tight) || crc.Long(got) != crc.Long(tight) {
			t.Errorf("of %d bytes: spare room counts", len(b))
		}
		if crc.GoShort(7, got) != crc.GoShort(7, tight) || crc.GoLong(7, got) != crc.GoLong(7, tight) {
			t.Errorf("of %d bytes, gone on: spare room counts", len(b))
		}
		if !bytes.Equal(room, was) {
			t.Errorf("of %d bytes: what was handed in is another one", len(b))
		}
	}
}

// R3, R4: bytes that are changed later change no sum that was told; the same bytes have the same sums again.
func TestSumsHangOnBytesAlone(t *testing.T) {
	b := []byte(digits)
	short, long := crc.Short(b), crc.Long(b)
	for i := range b {
		b[i]++
		crc.Of(1+i%2, b)
		crc.GoShort(uint16(i), b)
		crc.GoLong(uint32(i), b)
	}
	if crc.Short(b) == short || crc.Long(b) == long {
		t.Error("other bytes, the same sums")
	}
	if crc.Short([]byte(digits)) != short || crc.Long([]byte(digits)) != long {
		t.Error("the same bytes, other sums")
	}
}

func BenchmarkShort(b *testing.B) { benchmark(b, 1) }

func BenchmarkLong(b *testing.B) { benchmark(b, 2) }

func benchmark(b *testing.B, kind int) {
	all := row(api.MaxBundle, 91)
	b.SetBytes(int64(len(all)))
	for b.Loop() {
		crc.Of(kind, all)
	}
}
