package zeros_test

import (
	"bytes"
	"math"
	"slices"
	"strconv"
	"strings"
	"testing"

	"wagtail/zeros"
)

// patterns are bytes of many kinds: none, one, some, most, and all bits.
var patterns = []byte{0, 1, 2, 16, 128, 15, 240, 51, 85, 170, 204, 127, 239, 254, 255}

// rows are lists of bytes of many lengths; those of one length are of several looks.
func rows() [][]byte {
	l := [][]byte{nil, {}, {0}, {255}, {240}, {1, 2, 3}, {255, 255, 255}, {0, 0, 0, 0}, {255, 0, 129}}
	for _, n := range []int{2, 7, 16, 33, 252, 256} {
		for _, step := range []byte{1, 37, 113} {
			b := make([]byte, n)
			for i := range b {
				b[i] = byte(i)*step ^ byte(i>>3)
			}
			l = append(l, b)
		}
	}
	return l
}

// masks are masks that are empty, shorter than most rows, as long as some, and longer.
func masks() [][]byte {
	l := [][]byte{nil, {}, {0}, {255}, {15}, {240}, {255, 0}, {0, 255, 1}, {1, 2, 4, 8, 16, 32, 64, 128}}
	return append(l, bytes.Repeat([]byte{170, 3, 200}, 90))
}

// bit tells the bit of bytes at place k, from the lowest bit of the first byte on.
func bit(b []byte, k int) bool {
	return b[k/8]&(1<<(k%8)) != 0
}

// maskBit tells a mask's bit at place k, by going over the mask's bytes again and again.
func maskBit(m []byte, k int) bool {
	if len(m) == 0 {
		return false
	}
	for k >= 8*len(m) {
		k -= 8 * len(m)
	}
	return bit(m, k)
}

// expected tells bytes, each bit of which is as want says.
func expected(n int, want func(k int) bool) []byte {
	b := make([]byte, n)
	for k := range 8 * n {
		if want(k) {
			b[k/8] |= 1 << (k % 8)
		}
	}
	return b
}

// programmed tells, bit by bit, what the chapter says of Program.
func programmed(old, b, m []byte) []byte {
	return expected(len(old), func(k int) bool {
		if k < 8*len(b) && !bit(b, k) && maskBit(m, k) {
			return false
		}
		return bit(old, k)
	})
}

// erased tells, bit by bit, what the chapter says of Erase.
func erased(old, m []byte) []byte {
	return expected(len(old), func(k int) bool {
		return bit(old, k) || maskBit(m, k)
	})
}

// roomy tells bytes with spare room behind them, and all of the room.
func roomy(b []byte) (got, room []byte) {
	room = slices.Concat(b, bytes.Repeat([]byte{170}, 9))
	return room[:len(b)], room
}

// P2.1: Count tells how many bits are 0, of each byte.
func TestCountOfEachByte(t *testing.T) {
	if n := zeros.Count([]byte{240}); n != 4 {
		t.Error("the chapter's example:", n)
	}
	for x := range 256 {
		want := 8 - strings.Count(strconv.FormatInt(int64(x), 2), "1")
		if n := zeros.Count([]byte{byte(x)}); n != want {
			t.Errorf("of %d: %d, not %d", x, n, want)
		}
	}
}

// P2.1: Count counts all bytes together, and nothing of nothing.
func TestCountOfManyBytes(t *testing.T) {
	for _, b := range rows() {
		want := 0
		for k := range 8 * len(b) {
			if !bit(b, k) {
				want++
			}
		}
		if n := zeros.Count(b); n != want {
			t.Errorf("of %d bytes: %d, not %d", len(b), n, want)
		}
	}
	if zeros.Count(nil) != 0 || zeros.Count([]byte{}) != 0 {
		t.Error("nothing has bits that are 0")
	}
	if n := zeros.Count(make([]byte, 1<<17)); n != 1<<20 {
		t.Error("of many bytes of 0:", n)
	}
}

// P2.1: Ones tells n bytes of 255.
func TestOnes(t *testing.T) {
	for _, n := range []int{0, 1, 2, 7, 8, 255, 256, 1000, 1<<20 - 1, 1 << 20} {
		b := zeros.Ones(n)
		if len(b) != n || bytes.Count(b, []byte{255}) != n {
			t.Errorf("of %d: %d bytes, %d of 255", n, len(b), bytes.Count(b, []byte{255}))
		}
	}
}

// P2.1: Ones of a number below 0 has none; above 2^20 it has as many as of 2^20.
func TestOnesOfOddNumbers(t *testing.T) {
	for _, n := range []int{-1, -2, -256, -1 << 20, math.MinInt32, math.MinInt} {
		if b := zeros.Ones(n); len(b) != 0 {
			t.Errorf("of %d: %d bytes", n, len(b))
		}
	}
	for _, n := range []int{1<<20 + 1, 1 << 21, math.MaxInt32, math.MaxInt} {
		b := zeros.Ones(n)
		if len(b) != 1<<20 || bytes.Count(b, []byte{255}) != 1<<20 {
			t.Errorf("of %d: %d bytes, %d of 255", n, len(b), bytes.Count(b, []byte{255}))
		}
	}
}

// R3: the answers of Ones are each by itself.
func TestOnesAnswersNewMemory(t *testing.T) {
	x, y := zeros.Ones(5), zeros.Ones(5)
	clear(x)
	if string(y) != "\xff\xff\xff\xff\xff" || string(zeros.Ones(5)) != string(y) {
		t.Error("two answers share")
	}
}

// P2.1: Blank is told of 255 alone, in each byte.
func TestBlank(t *testing.T) {
	for x := range 256 {
		if zeros.Blank([]byte{byte(x)}) != (x == 255) {
			t.Error("of", x)
		}
	}
	for _, n := range []int{1, 2, 8, 33, 256} {
		b := bytes.Repeat([]byte{255}, n)
		if !zeros.Blank(b) {
			t.Errorf("%d bytes of 255: not blank", n)
		}
		for k := range 8 * n {
			b[k/8] ^= 1 << (k % 8)
			if zeros.Blank(b) {
				t.Errorf("%d bytes, bit %d is 0: blank", n, k)
			}
			b[k/8] = 255
		}
	}
}

// P2.1: nothing at all is blank.
func TestBlankOfNothing(t *testing.T) {
	if !zeros.Blank(nil) || !zeros.Blank([]byte{}) {
		t.Error("nothing is not blank")
	}
}

// P2.1, P2.4: spare room is not there, for those that look.
func TestLooksAtNoSpareRoom(t *testing.T) {
	zero := []byte{255, 255, 0, 0}[:2]
	if zeros.Count(zero) != 0 || !zeros.Blank(zero) {
		t.Error("Count, Blank")
	}
	if !zeros.Covers(zero, []byte{255, 255, 255, 255}[:2]) {
		t.Error("Covers")
	}
	if zeros.Mask([]byte{1, 9}[:1], 1) != 1 {
		t.Error("Mask")
	}
	if p := zeros.Program([]byte{255, 255}, []byte{1, 0}[:1], []byte{255, 0}[:1]); string(p) != "\x01\xff" {
		t.Error("Program:", p)
	}
}

// P2.2: a mask's bytes repeat, over and over.
func TestMaskRepeats(t *testing.T) {
	for _, m := range masks() {
		if len(m) == 0 {
			continue
		}
		for round := range 4 {
			for i, want := range m {
				if x := zeros.Mask(m, round*len(m)+i); x != want {
					t.Errorf("%v at %d: %d, not %d", m, round*len(m)+i, x, want)
				}
			}
		}
	}
}

// P2.2: a mask has a byte at the highest places, too.
func TestMaskAtHighPlaces(t *testing.T) {
	for _, i := range []int{1 << 20, math.MaxInt32, math.MaxInt - 1, math.MaxInt} {
		if x := zeros.Mask([]byte{77}, i); x != 77 {
			t.Errorf("one byte, at %d: %d", i, x)
		}
		if x := zeros.Mask([]byte{3, 5, 7}, i); x != byte(3+2*(i%3)) {
			t.Errorf("three bytes, at %d: %d", i, x)
		}
	}
}

// P2.2: an empty mask, or a place below 0, has 0.
func TestMaskOfNothing(t *testing.T) {
	for _, i := range []int{0, 1, 2, 255, -1, math.MaxInt, math.MinInt} {
		if zeros.Mask(nil, i) != 0 || zeros.Mask([]byte{}, i) != 0 {
			t.Errorf("an empty mask has a byte at %d", i)
		}
	}
	for _, m := range [][]byte{{255}, {1, 2}, {255, 255, 255}} {
		for _, i := range []int{-1, -2, -3, -4, math.MinInt32, math.MinInt + 1, math.MinInt} {
			if x := zeros.Mask(m, i); x != 0 {
				t.Errorf("%v at %d: %d", m, i, x)
			}
		}
	}
}

// P2.3: each bit of one byte that is programmed is as the chapter says, whatever the mask.
func TestProgramOfOneByte(t *testing.T) {
	if p := zeros.Program([]byte{255}, []byte{240}, []byte{15}); string(p) != "\xf0" {
		t.Error("the document's example:", p)
	}
	for _, old := range patterns {
		for _, b := range patterns {
			for _, m := range patterns {
				x, y, z := []byte{old}, []byte{b}, []byte{m}
				if got, want := zeros.Program(x, y, z), programmed(x, y, z); !bytes.Equal(got, want) {
					t.Errorf("Program(%d, %d, %d) = %v, not %v", old, b, m, got, want)
				}
			}
		}
	}
}

// P2.3: Program of bytes that are fewer, as many, or more, by masks that are shorter, as long, or longer.
func TestProgramOfManyBytes(t *testing.T) {
	for _, old := range rows() {
		for _, b := range rows() {
			for _, m := range masks() {
				if got, want := zeros.Program(old, b, m), programmed(old, b, m); !bytes.Equal(got, want) {
					t.Errorf("Program(%v, %v, %v) = %v, not %v", old, b, m, got, want)
				}
			}
		}
	}
}

// P2.3: where there is nothing to program, all stays; what is more than there was counts for nothing.
func TestProgramOfFewerAndMoreBytes(t *testing.T) {
	full := []byte{255}
	for _, c := range []struct{ old, b, want string }{
		{"\x0f\xff\xf0", "", "\x0f\xff\xf0"},
		{"\x0f\xff\xf0", "\x00", "\x00\xff\xf0"},
		{"\x0f\xff\xf0", "\x00\x01", "\x00\x01\xf0"},
		{"\xff", "\x07\x00\x00", "\x07"},
		{"", "\x00\x00", ""},
		{"", "", ""},
	} {
		if got := zeros.Program([]byte(c.old), []byte(c.b), full); string(got) != c.want {
			t.Errorf("%q on %q: %q, not %q", c.b, c.old, got, c.want)
		}
	}
	if got := zeros.Program(nil, nil, nil); len(got) != 0 {
		t.Error("nothing on nothing:", got)
	}
}

// P2.3: each bit of one byte that is erased is as the chapter says, whatever the mask.
func TestEraseOfOneByte(t *testing.T) {
	for old := range 256 {
		for m := range 256 {
			x, y := []byte{byte(old)}, []byte{byte(m)}
			if got, want := zeros.Erase(x, y), erased(x, y); !bytes.Equal(got, want) {
				t.Errorf("Erase(%d, %d) = %v, not %v", old, m, got, want)
			}
		}
	}
}

// P2.3: Erase by masks that are shorter, as long, or longer.
func TestEraseOfManyBytes(t *testing.T) {
	for _, old := range rows() {
		for _, m := range masks() {
			if got, want := zeros.Erase(old, m), erased(old, m); !bytes.Equal(got, want) {
				t.Errorf("Erase(%v, %v) = %v, not %v", old, m, got, want)
			}
		}
	}
}

// P2.3: an empty mask does nothing, a full one all, and one that is shorter begins anew.
func TestMasksOfAFewBytes(t *testing.T) {
	old, b := []byte{255, 240, 255, 15, 255}, []byte{1, 2, 3, 4, 5}
	for _, c := range []struct {
		m                  []byte
		programmed, erased string
	}{
		{nil, "\xff\xf0\xff\x0f\xff", "\xff\xf0\xff\x0f\xff"},
		{[]byte{}, "\xff\xf0\xff\x0f\xff", "\xff\xf0\xff\x0f\xff"},
		{[]byte{0}, "\xff\xf0\xff\x0f\xff", "\xff\xf0\xff\x0f\xff"},
		{[]byte{255}, "\x01\x00\x03\x04\x05", "\xff\xff\xff\xff\xff"},
		{[]byte{255, 0}, "\x01\xf0\x03\x0f\x05", "\xff\xf0\xff\x0f\xff"},
		{[]byte{0, 255}, "\xff\x00\xff\x04\xff", "\xff\xff\xff\xff\xff"},
		{[]byte{0, 1, 128}, "\xff\xf0\x7f\x0f\xff", "\xff\xf1\xff\x0f\xff"},
		{[]byte{0, 0, 0, 0, 0, 255}, "\xff\xf0\xff\x0f\xff", "\xff\xf0\xff\x0f\xff"},
	} {
		if p := zeros.Program(old, b, c.m); string(p) != c.programmed {
			t.Errorf("Program by %v: %q, not %q", c.m, p, c.programmed)
		}
		if e := zeros.Erase(old, c.m); string(e) != c.erased {
			t.Errorf("Erase by %v: %q, not %q", c.m, e, c.erased)
		}
	}
}

// R3: what is handed in is not changed, its spare room neither.
func TestNothingHandedInIsChanged(t *testing.T) {
	for _, n := range []int{0, 1, 3, 5} {
		old, oldRoom := roomy(bytes.Repeat([]byte{60}, 3))
		b, bRoom := roomy(bytes.Repeat([]byte{7}, n))
		m, mRoom := roomy(bytes.Repeat([]byte{85}, n))
		zeros.Count(old)
		zeros.Blank(old)
		zeros.Covers(old, b)
		zeros.Covers(b, old)
		zeros.Mask(m, 4)
		zeros.Program(old, b, m)
		zeros.Erase(old, m)
		same := func(what string, room []byte, x byte, many int) {
			if want := slices.Concat(bytes.Repeat([]byte{x}, many), bytes.Repeat([]byte{170}, 9)); !bytes.Equal(room, want) {
				t.Errorf("of %d: %s is another one: %v", n, what, room)
			}
		}
		same("what was there", oldRoom, 60, 3)
		same("what is programmed", bRoom, 7, n)
		same("the mask", mRoom, 85, n)
	}
}

// R3: answers are new memory, when nothing is done, too: who writes in one, or behind it, is seen nowhere else.
func TestAnswersAreNewMemory(t *testing.T) {
	for _, m := range masks() {
		for _, more := range [][]byte{nil, {0}, {1, 2, 3}, {0, 0, 0, 0, 0}} {
			old, oldRoom := roomy([]byte{255, 240, 15})
			b, bRoom := roomy(more)
			mask, maskRoom := roomy(m)
			rooms := [][]byte{bytes.Clone(oldRoom), bytes.Clone(bRoom), bytes.Clone(maskRoom)}
			p, e := zeros.Program(old, b, mask), zeros.Erase(old, mask)
			wantE := bytes.Clone(e)
			scribble(p)
			if !bytes.Equal(e, wantE) {
				t.Error("two answers share")
			}
			scribble(e)
			if !bytes.Equal(oldRoom, rooms[0]) || !bytes.Equal(bRoom, rooms[1]) || !bytes.Equal(maskRoom, rooms[2]) {
				t.Errorf("an answer, by %v of %v, is what was handed in", m, more)
			}
		}
	}
	for _, l := range [][]byte{zeros.Program(nil, nil, nil), zeros.Erase(nil, nil), zeros.Ones(0)} {
		if len(l) != 0 {
			t.Error("nothing has bytes:", l)
		}
	}
}

// scribble writes all over bytes, and over their spare room.
func scribble(b []byte) {
	l := b[:cap(b)]
	for i := range l {
		l[i] = 99
	}
}

// R3, R4: bytes may be handed in twice, as different things; the answer is that of copies.
func TestSameBytesAsSeveralThings(t *testing.T) {
	for _, b := range rows() {
		was := bytes.Clone(b)
		if got := zeros.Program(b, b, b); !bytes.Equal(got, was) {
			t.Errorf("%v on itself: %v", b, got)
		}
		if got := zeros.Erase(b, b); !bytes.Equal(got, was) {
			t.Errorf("%v erased by itself: %v", b, got)
		}
		if !zeros.Covers(b, b) || !bytes.Equal(b, was) {
			t.Errorf("%v does not cover itself", b)
		}
	}
}

// P2.4: Covers of each byte and each other one.
func TestCoversOfOneByte(t *testing.T) {
	for x := range 256 {
		for y := range 256 {
			want := true
			for k := range 8 {
				if y&(1<<k) != 0 && x&(1<<k) == 0 {
					want = false
				}
			}
			if zeros.Covers([]byte{byte(x)}, []byte{byte(y)}) != want {
				t.Errorf("Covers(%d, %d) is not %v", x, y, want)
			}
		}
	}
}

// P2.4: one bit that lacks is told, wherever it is; one that is more is not.
func TestCoversTellsEachBit(t *testing.T) {
	for _, b := range rows() {
		for k := range 8 * len(b) {
			other := bytes.Clone(b)
			other[k/8] ^= 1 << (k % 8)
			if zeros.Covers(other, b) == bit(b, k) {
				t.Errorf("%d bytes, bit %d turned: Covers is %v", len(b), k, !bit(b, k))
			}
		}
	}
}

// P2.4: bytes of other lengths cover nothing of each other; nothing covers nothing.
func TestCoversOfOtherLengths(t *testing.T) {
	for _, c := range []struct {
		a, b string
		want bool
	}{
		{"", "", true},
		{"\xff", "", false}, {"", "\xff", false}, {"\x00", "", false}, {"", "\x00", false},
		{"\xff\xff", "\xff", false}, {"\xff", "\xff\x00", false}, {"\xff", "\xff\xff", false},
		{"\x00\x00\x00", "\x00\x00", false}, {"\x00\x00", "\x00\x00\x00", false},
		{"\xff\xff\xff", "\x01\x02", false},
	} {
		if got := zeros.Covers([]byte(c.a), []byte(c.b)); got != c.want {
			t.Errorf("Covers(%q, %q) = %v", c.a, c.b, got)
		}
	}
	if !zeros.Covers(nil, nil) || !zeros.Covers(nil, []byte{}) || !zeros.Covers([]byte{}, nil) {
		t.Error("nothing does not cover nothing")
	}
	if zeros.Covers(nil, []byte{0}) || zeros.Covers([]byte{255}, nil) {
		t.Error("bytes and nothing cover one another")
	}
}

// P2.5: whatever the mask, what is programmed on Ones covers what was to be programmed.
func TestProgramOnOnesCovers(t *testing.T) {
	for _, b := range rows() {
		for _, m := range masks() {
			if got := zeros.Program(zeros.Ones(len(b)), b, m); !zeros.Covers(got, b) {
				t.Errorf("%v by %v: %v does not cover it", b, m, got)
			}
		}
		if got := zeros.Program(zeros.Ones(len(b)), b, []byte{255}); !bytes.Equal(got, b) {
			t.Errorf("%v, of which all is programmed: %v", b, got)
		}
	}
}

// P2.5: whatever the mask, what is erased covers what was.
func TestEraseCovers(t *testing.T) {
	for _, b := range rows() {
		for _, m := range masks() {
			if got := zeros.Erase(b, m); !zeros.Covers(got, b) {
				t.Errorf("%v by %v: %v does not cover it", b, m, got)
			}
		}
		if got := zeros.Erase(b, []byte{255}); len(got) != len(b) || !zeros.Blank(got) {
			t.Errorf("%v, of which all is erased: %v", b, got)
		}
	}
}

// P2.5: what was programmed on Ones in part, and erased in part, again and again, still covers.
func TestTornAgainAndAgainCovers(t *testing.T) {
	for _, b := range rows() {
		for _, first := range masks() {
			got := zeros.Program(zeros.Ones(len(b)), b, first)
			for _, m := range masks() {
				got = zeros.Erase(got, m)
				if !zeros.Covers(got, b) {
					t.Fatalf("%v, by %v and %v: %v does not cover it", b, first, m, got)
				}
			}
		}
	}
}

// P2.5: what covers one or two bytes, and has as many bits that are 0, is those bytes.
func TestCoversWithAsManyZerosIsTheSame(t *testing.T) {
	for x := range 256 {
		for y := range 256 {
			a, b := []byte{byte(x)}, []byte{byte(y)}
			if zeros.Covers(a, b) && zeros.Count(a) == zeros.Count(b) && x != y {
				t.Errorf("%d covers %d, and has as many", x, y)
			}
		}
	}
	for _, a := range rows() {
		for _, b := range rows() {
			if zeros.Covers(a, b) && zeros.Count(a) == zeros.Count(b) && !bytes.Equal(a, b) {
				t.Errorf("%v covers %v, and has as many", a, b)
			}
		}
	}
}

// P2.5: a program that is torn has more bits that are 1, and so another count, or is the bytes themselves.
func TestTornIsToldByItsCount(t *testing.T) {
	for _, b := range rows() {
		for _, m := range masks() {
			for _, got := range [][]byte{zeros.Program(zeros.Ones(len(b)), b, m), zeros.Erase(b, m)} {
				same, fewer := bytes.Equal(got, b), zeros.Count(got) < zeros.Count(b)
				if same == fewer {
					t.Errorf("%v by %v: %v has %d, not %d", b, m, got, zeros.Count(got), zeros.Count(b))
				}
			}
		}
	}
}
