package head_test

import (
	"bytes"
	"encoding/binary"
	"encoding/hex"
	"math"
	"slices"
	"testing"

	"wagtail/api"
	"wagtail/head"
)

// numbers are those at which a head's width changes, the ends of their type, each bit alone, and some within.
func numbers() []uint64 {
	l := []uint64{0, 1, 7, 10, 22, 23, 24, 25, 27, 28, 31, 32, 300, 0x0102030405060708, math.MaxUint64, math.MaxUint64 - 1}
	for _, edge := range []uint64{1 << 8, 1 << 16, 1 << 32} {
		l = append(l, edge-2, edge-1, edge, edge+1, edge*3/2)
	}
	for i := range 64 {
		l = append(l, 1<<i, 1<<i-1)
	}
	return l
}

// laid tells a head's bytes by the chapter's words, one width after the other, by the library's own way.
func laid(major int, n uint64) []byte {
	first := byte(32 * major)
	switch {
	case n < 24:
		return []byte{first + byte(n)}
	case n < 256:
		return []byte{first + 24, byte(n)}
	case n < 65536:
		return binary.BigEndian.AppendUint16([]byte{first + 25}, uint16(n))
	case n < 4294967296:
		return binary.BigEndian.AppendUint32([]byte{first + 26}, uint32(n))
	}
	return binary.BigEndian.AppendUint64([]byte{first + 27}, n)
}

// padded tells a head whose n stands in so many bytes behind the first one, whether fewer would do or not.
func padded(major, wide int, n uint64) []byte {
	low := map[int]byte{1: 24, 2: 25, 4: 26, 8: 27}[wide]
	b := binary.BigEndian.AppendUint64(nil, n)
	return append([]byte{byte(32*major) + low}, b[8-wide:]...)
}

// begun tells which n a head has that b, of more than one byte, begins with, and how many bytes: each n that may stand there is laid, and held against b.
func begun(b []byte) (api.Errno, uint64, int) {
	major, low := int(b[0])/32, b[0]%32
	for size := 1; size <= min(len(b), 9); size++ {
		n := uint64(low)
		if size > 1 {
			n = binary.BigEndian.Uint64(append(make([]byte, 9-size), b[1:size]...))
		}
		if h := laid(major, n); len(h) == size && bytes.HasPrefix(b, h) {
			return api.OK, n, size
		}
	}
	need := map[byte]int{24: 2, 25: 3, 26: 5, 27: 9}[low]
	if need > len(b) {
		return api.ErrShort, 0, 0
	}
	return api.ErrForm, 0, 0
}

// isHead tells what is wrong with Get of b, when it begins with that head.
func isHead(t *testing.T, b []byte, major int, n uint64, size int) {
	t.Helper()
	if m, k, s, e := head.Get(b); m != major || k != n || s != size || e != api.OK {
		t.Errorf("Get(%v) = %d, %d, %d, %d, not %d, %d, %d", b, m, k, s, e, major, n, size)
	}
}

// isNone tells what is wrong with Get of b, when that is the error.
func isNone(t *testing.T, b []byte, want api.Errno) {
	t.Helper()
	if m, k, s, e := head.Get(b); m != 0 || k != 0 || s != 0 || e != want {
		t.Errorf("Get(%v) = %d, %d, %d, %d, not the error %d alone", b, m, k, s, e, want)
	}
}

// P5.1: the major types, in order.
func TestMajorTypes(t *testing.T) {
	got := []int{head.Uint, head.Nint, head.Bytes, head.Text, head.Array, head.Map, head.Tag, head.Simple}
	if !slices.Equal(got, []int{0, 1, 2, 3, 4, 5, 6, 7}) {
		t.Error(got)
	}
}

// P5.1: Put lays each major type with each n, at each end of each width.
func TestPut(t *testing.T) {
	if got, e := head.Put(2, 300); e != api.OK || !bytes.Equal(got, []byte{89, 1, 44}) {
		t.Error("the chapter's example:", got, e)
	}
	for major := range 8 {
		for _, n := range numbers() {
			want := laid(major, n)
			if got, e := head.Put(major, n); e != api.OK || !bytes.Equal(got, want) {
				t.Errorf("Put(%d, %d) = %v, %d, not %v", major, n, got, e, want)
			}
		}
	}
}

// known are heads that are known from elsewhere (RFC 8949, appendix A).
var known = []struct {
	hex   string
	major int
	n     uint64
}{
	{"00", 0, 0}, {"01", 0, 1}, {"0a", 0, 10}, {"17", 0, 23}, {"1818", 0, 24}, {"1819", 0, 25}, {"1864", 0, 100}, {"1903e8", 0, 1000},
	{"1a000f4240", 0, 1000000}, {"1b000000e8d4a51000", 0, 1000000000000}, {"1bffffffffffffffff", 0, 18446744073709551615},
	{"20", 1, 0}, {"29", 1, 9}, {"3863", 1, 99}, {"3903e7", 1, 999}, {"3bffffffffffffffff", 1, 18446744073709551615},
	{"40", 2, 0}, {"44", 2, 4}, {"60", 3, 0}, {"64", 3, 4}, {"80", 4, 0}, {"83", 4, 3}, {"9819", 4, 25}, {"a0", 5, 0}, {"a2", 5, 2},
	{"c0", 6, 0}, {"c1", 6, 1}, {"d74401020304", 6, 23}, {"d818", 6, 24}, {"d820", 6, 32}, {"f4", 7, 20}, {"f5", 7, 21}, {"f6", 7, 22}, {"f7", 7, 23}, {"f0", 7, 16}, {"f8ff", 7, 255},
}

// P5.1, P5.2: heads that are known from elsewhere, laid and read.
func TestKnownHeads(t *testing.T) {
	for _, c := range known {
		b, _ := hex.DecodeString(c.hex)
		got, e := head.Put(c.major, c.n)
		if e != api.OK || !bytes.HasPrefix(b, got) {
			t.Errorf("Put(%d, %d) = %x, %d, not %s", c.major, c.n, got, e, c.hex)
		}
		isHead(t, b, c.major, c.n, len(got))
	}
}

// P5.1: a major type that is none, whatever n is.
func TestPutOfNoMajorType(t *testing.T) {
	for _, major := range []int{-1, -2, -7, -8, -256, math.MinInt32, math.MinInt, math.MinInt + 1, 8, 9, 15, 16, 31, 32, 255, 256, 257, 1 << 31, 1 << 32, 1<<32 + 2, 1 << 59, math.MaxInt32, math.MaxInt} {
		for _, n := range numbers() {
			if got, e := head.Put(major, n); e != api.ErrArg || len(got) != 0 {
				t.Errorf("Put(%d, %d) = %v, %d, not ErrArg", major, n, got, e)
			}
		}
	}
}

// P5.1: Size at each end of each width, and as many bytes as Put lays.
func TestSize(t *testing.T) {
	for n, want := range map[uint64]int{
		0: 1, 1: 1, 22: 1, 23: 1, 24: 2, 25: 2, 27: 2, 28: 2, 254: 2, 255: 2, 256: 3, 257: 3, 65534: 3, 65535: 3, 65536: 5, 65537: 5, 1 << 24: 5,
		1<<32 - 2: 5, 1<<32 - 1: 5, 1 << 32: 9, 1<<32 + 1: 9, 1 << 40: 9, 1 << 48: 9, 1 << 56: 9, 1 << 63: 9, math.MaxUint64 - 1: 9, math.MaxUint64: 9,
	} {
		if got := head.Size(n); got != want {
			t.Errorf("Size(%d) = %d, not %d", n, got, want)
		}
	}
	for major := range 8 {
		for _, n := range numbers() {
			if b, _ := head.Put(major, n); head.Size(n) != len(b) {
				t.Errorf("Size(%d) = %d, but %v", n, head.Size(n), b)
			}
		}
	}
}

// P5.2: no bytes, and bytes that end within a head, at each place, whatever those are that are there.
func TestGetOfTooFewBytes(t *testing.T) {
	isNone(t, nil, api.ErrShort)
	isNone(t, []byte{}, api.ErrShort)
	for major := range 8 {
		for _, wide := range []int{1, 2, 4, 8} {
			for _, n := range []uint64{0, 23, 24, math.MaxUint64, 0x0102030405060708} {
				b := padded(major, wide, n)
				for size := 1; size < len(b); size++ {
					isNone(t, b[:size], api.ErrShort)
				}
			}
		}
	}
}

// P5.2: first bytes that are no head's, alone, with bytes behind them that would be too few, and with enough.
func TestGetOfNoFirstByte(t *testing.T) {
	for major := range 8 {
		for low := 28; low < 32; low++ {
			for _, more := range [][]byte{nil, {0}, {1}, {255}, {24, 24}, make([]byte, 8), bytes.Repeat([]byte{255}, 16), make([]byte, 40)} {
				isNone(t, append([]byte{byte(32*major + low)}, more...), api.ErrForm)
			}
		}
	}
	isNone(t, head.Open(), api.ErrForm)
	isNone(t, head.Break(), api.ErrForm)
}

// P5.2: n that could be told by fewer bytes, at each width, with bytes behind it and without; the least that could not is read.
func TestGetOfNeedlessBytes(t *testing.T) {
	for wide, least := range map[int]uint64{1: 24, 2: 1 << 8, 4: 1 << 16, 8: 1 << 32} {
		for major := range 8 {
			for _, n := range append(numbers(), least-1, least/2, least) {
				b := padded(major, wide, n)
				switch {
				case n < least:
					isNone(t, b, api.ErrForm)
					isNone(t, append(b, 0, 255), api.ErrForm)
				case n <= math.MaxUint64>>(64-8*wide):
					isHead(t, b, major, n, 1+wide)
				}
			}
		}
	}
}

// P5.2: of two faults the first: the first byte's ahead of all, bytes that end ahead of bytes that are needless.
func TestGetOfTwoFaults(t *testing.T) {
	for _, b := range [][]byte{{28}, {31}, {60}, {95}, {124}, {159}, {191}, {223}, {252}, {255}, {28, 0}, {31, 0, 0}} {
		isNone(t, b, api.ErrForm)
	}
	for _, b := range [][]byte{{24}, {25}, {25, 0}, {26, 0}, {26, 0, 0, 0}, {27, 0}, {27, 0, 0, 0, 0}, {27, 0, 0, 0, 0, 0, 0, 0}, {249, 0}, {90, 0, 0, 0}} {
		isNone(t, b, api.ErrShort)
	}
	for _, b := range [][]byte{{24, 0}, {25, 0, 0}, {26, 0, 0, 0, 0}, {27, 0, 0, 0, 0, 0, 0, 0, 0}, {249, 0, 255}, {90, 0, 0, 255, 255}} {
		isNone(t, b, api.ErrForm)
	}
}

// P5.2, P5.4: bytes that follow a head, those that would lengthen it, too, count for nothing.
func TestGetOfHeadsThatOthersFollow(t *testing.T) {
	for major := range 8 {
		for _, n := range numbers() {
			b := laid(major, n)
			for _, more := range [][]byte{nil, {0}, {255}, {28}, {24}, {1, 2, 3, 4, 5, 6, 7, 8, 9}, b, make([]byte, 300)} {
				isHead(t, slices.Concat(b, more), major, n, len(b))
			}
		}
	}
}

// P5.2, P5.4: all rows of two bytes, and what may stand behind them: each is one head's alone, or none's.
func TestGetOfAllBeginnings(t *testing.T) {
	tails := [][]byte{nil, {0}, {1}, {255}, {0, 0}, {0, 0, 0}, {0, 0, 255}, {1, 0, 0}, make([]byte, 7), {0, 0, 1, 0, 0, 0, 0}, bytes.Repeat([]byte{255}, 7), bytes.Repeat([]byte{7}, 12)}
	for k := range 1 << 16 {
		for _, tail := range tails {
			b := append([]byte{byte(k >> 8), byte(k)}, tail...)
			want, n, size := begun(b)
			if want != api.OK {
				isNone(t, b, want)
				continue
			}
			major := k >> 13
			isHead(t, b, major, n, size)
			if again, e := head.Put(major, n); e != api.OK || !bytes.Equal(again, b[:size]) {
				t.Fatalf("Put of what Get(%v) tells = %v, %d", b, again, e)
			}
		}
	}
}

// P5.4: Get of Put tells what was put, whatever follows: each n that has room in three bytes, and those at the widths' ends.
func TestThereAndBackAgain(t *testing.T) {
	there := func(major int, n uint64) {
		b, e := head.Put(major, n)
		if e != api.OK {
			t.Fatalf("Put(%d, %d): %d", major, n, e)
		}
		isHead(t, b, major, n, len(b))
		isHead(t, append(b, byte(n), 0), major, n, len(b))
	}
	for n := range uint64(1<<16 + 2) {
		there(int(n%8), n)
		there(int((n+3)%8), n)
	}
	for major := range 8 {
		for _, n := range numbers() {
			there(major, n)
		}
	}
}

// P5.4: no two heads have the same bytes, nor does one begin as another one.
func TestHeadsAreUnlike(t *testing.T) {
	seen := map[string]bool{}
	for major := range 8 {
		for _, n := range slices.Compact(slices.Sorted(slices.Values(numbers()))) {
			b, _ := head.Put(major, n)
			for size := 1; size <= len(b); size++ {
				if seen[string(b[:size])] {
					t.Errorf("%v: begins with another head's bytes", b)
				}
			}
			seen[string(b)] = true
		}
	}
}

// P5.3: the bytes that an array without length begins and ends with.
func TestOpenAndBreak(t *testing.T) {
	if b := head.Open(); !bytes.Equal(b, []byte{159}) {
		t.Error("Open:", b)
	}
	if b := head.Break(); !bytes.Equal(b, []byte{255}) {
		t.Error("Break:", b)
	}
}

// P5.3: Is, of nothing, of all of it, of more than it has, of other bytes at each place.
func TestIs(t *testing.T) {
	for _, b := range [][]byte{nil, {}, {0}, {159}, {255}, {159, 255}, {1, 2, 3}, laid(2, 300), bytes.Repeat([]byte{159}, 300)} {
		if !head.Is(b, nil) || !head.Is(b, []byte{}) {
			t.Errorf("%v does not begin with nothing", b)
		}
		for size := range len(b) + 1 {
			if !head.Is(b, b[:size]) || !head.Is(b, bytes.Clone(b[:size])) {
				t.Errorf("%v does not begin with its first %d", b, size)
			}
			if head.Is(b[:size], append(bytes.Clone(b[:size]), 0)) || size < len(b) && head.Is(b[:size], b) {
				t.Errorf("%v begins with more than it has", b[:size])
			}
		}
		for at := range b {
			what := bytes.Clone(b)
			what[at]++
			if head.Is(b, what) || head.Is(b, what[:at+1]) {
				t.Errorf("%v begins with %v", b, what)
			}
		}
	}
	if head.Is([]byte{0, 159}, head.Open()) || head.Is(head.Break(), head.Open()) || head.Is(nil, head.Break()) || head.Is([]byte{1, 159}, []byte{159}) {
		t.Error("begins with what stands elsewhere, or nowhere")
	}
	if !head.Is([]byte{159, 130, 255}, head.Open()) || !head.Is([]byte{255}, head.Break()) {
		t.Error("an array without length, or its end, is not told")
	}
}

// R3: what is handed in is not changed, its spare room neither; the spare room counts for nothing.
func TestNothingHandedInIsChanged(t *testing.T) {
	for major := range 8 {
		for _, n := range numbers() {
			whole := append(laid(major, n), 1, 2, 3)
			for size := range len(whole) + 1 {
				spare := bytes.Clone(whole)
				m1, n1, s1, e1 := head.Get(spare[:size])
				m2, n2, s2, e2 := head.Get(slices.Clip(bytes.Clone(whole[:size])))
				if m1 != m2 || n1 != n2 || s1 != s2 || e1 != e2 {
					t.Errorf("Get(%v): spare room counts", whole[:size])
				}
				if head.Is(spare[:size], whole) != (size == len(whole)) || !head.Is(whole, spare[:size]) {
					t.Errorf("Is of %v, and %d of it: spare room counts", whole, size)
				}
				if !bytes.Equal(spare, whole) {
					t.Errorf("%v became %v", whole, spare)
				}
			}
		}
	}
}

// R3, R4: what is answered is new memory; whatever is done with it, and whatever was asked in between, the same is answered again.
func TestAnswersAreNewMemory(t *testing.T) {
	ask := func() [][]byte {
		l := [][]byte{head.Open(), head.Break()}
		for major := range 8 {
			for _, n := range numbers() {
				b, _ := head.Put(major, n)
				l = append(l, b)
			}
		}
		return l
	}
	first := ask()
	var was [][]byte
	for _, b := range first {
		was = append(was, bytes.Clone(b))
	}
	for i, b := range first {
		all := b[:cap(b)]
		for k := range all {
			all[k] = 170
		}
		head.Get(b)
		for k := i + 1; k < len(first); k++ {
			if !bytes.Equal(first[k], was[k]) {
				t.Fatalf("answers %d and %d share memory", i, k)
			}
		}
	}
	if !slices.EqualFunc(ask(), was, bytes.Equal) {
		t.Error("the same was asked, and something else answered")
	}
}

// R4: bytes that are changed later change nothing that was told of them, and tell the same when they are back.
func TestGetHangsOnBytesAlone(t *testing.T) {
	b := []byte{89, 1, 44, 7}
	isHead(t, b, 2, 300, 3)
	for i := range b {
		b[i] ^= 255
		head.Get(b)
		head.Is(b, b)
		b[i] ^= 255
		isHead(t, b, 2, 300, 3)
	}
	b[1] = 0
	isNone(t, b, api.ErrForm)
	b[1] = 1
	isHead(t, b, 2, 300, 3)
}
