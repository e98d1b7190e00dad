package item_test

import (
	"bytes"
	"math"
	"slices"
	"strings"
	"testing"
	"unicode/utf8"

	"wagtail/api"
	"wagtail/head"
	"wagtail/item"
)

// begun is a list of which so many values are still to come.
type begun struct {
	has  []any
	left uint64
}

// told tells what Get of bytes ought to be, by the chapter's words: value by value, with the lists that are begun kept in a row.
func told(b []byte) (any, int, api.Errno) {
	var lists []begun
	for at, many := 0, 1; ; many++ {
		if len(lists) > 16 || many > 4096 {
			return nil, 0, api.ErrBig
		}
		major, n, size, e := head.Get(b[at:])
		if e != api.OK {
			return nil, 0, e
		}
		at += size
		v, e := one(b[at:], major, n)
		if e != api.OK {
			return nil, 0, e
		}
		if major == 2 || major == 3 {
			at += int(n)
		}
		if major == 4 && n > 0 {
			lists = append(lists, begun{nil, n})
			continue
		}
		ended := true
		for k := len(lists) - 1; k >= 0 && ended; k-- {
			lists[k].has = append(lists[k].has, v)
			lists[k].left--
			if ended = lists[k].left == 0; ended {
				v = lists[k].has
				lists = lists[:k]
			}
		}
		if ended {
			return v, at, api.OK
		}
	}
}

// one tells the value with that head which stands ahead of b; of a list, one of none.
func one(b []byte, major int, n uint64) (any, api.Errno) {
	switch {
	case major == 0:
		return n, api.OK
	case major == 1:
		return api.Minus(n), api.OK
	case (major == 2 || major == 3) && uint64(len(b)) < n:
		return nil, api.ErrShort
	case major == 2:
		return append([]byte{}, b[:n]...), api.OK
	case major == 3 && !utf8.Valid(b[:n]):
		return nil, api.ErrForm
	case major == 3:
		return string(b[:n]), api.OK
	case major == 4:
		return []any{}, api.OK
	case major == 7 && n >= 20 && n <= 22:
		return []any{false, true, nil}[n-20], api.OK
	}
	return nil, api.ErrType
}

// isRead tells what is wrong with Get and Whole of bytes.
func isRead(t *testing.T, b []byte) {
	t.Helper()
	wanted, size, err := told(b)
	v, n, e := item.Get(b)
	want(t, "Get", v, e, wanted, err)
	if n != size {
		t.Errorf("Get(%.60v) has %d bytes, not %d", b, n, size)
	}
	if err == api.OK && size < len(b) {
		wanted, err = nil, api.ErrForm
	}
	v, e = item.Whole(b)
	want(t, "Whole", v, e, wanted, err)
	if e == api.OK {
		again, f := item.Put(v)
		want(t, "Put of Whole", again, f, b, api.OK)
	}
}

// isNone tells what is wrong with Get and Whole of bytes, when that is the error of both.
func isNone(t *testing.T, b []byte, err api.Errno) {
	t.Helper()
	if v, n, e := item.Get(b); v != nil || n != 0 || e != err {
		t.Errorf("Get(%.60v) = %.60v, %d, %d, not the error %d alone", b, v, n, e, err)
	}
	v, e := item.Whole(b)
	want(t, "Whole", v, e, nil, err)
}

// around tells bytes with so many heads of lists of one ahead of them.
func around(many int, b []byte) []byte {
	return append(bytes.Repeat([]byte{0x81}, many), b...)
}

// P6.2: each value that is known from elsewhere, alone, and with bytes behind it.
func TestGet(t *testing.T) {
	for _, k := range known {
		b := bytesOf(k.hex)
		v, e := item.Whole(b)
		want(t, "Whole", v, e, k.v, api.OK)
		for _, more := range [][]byte{nil, {0}, {255}, {0xa0}, {0x81}, b, make([]byte, 100)} {
			v, n, e := item.Get(slices.Concat(b, more))
			want(t, "Get", v, e, k.v, api.OK)
			if n != len(b) {
				t.Errorf("Get of %s has %d bytes", k.hex, n)
			}
		}
	}
	v, e := item.Whole([]byte{130, 1, 97, 104})
	want(t, "the chapter's example", v, e, any([]any{uint64(1), "h"}), api.OK)
	for _, v := range values() {
		b, _ := item.Put(v)
		isRead(t, b)
	}
}

// P6.2: bytes behind a value: Get leaves them, to Whole they are ErrForm, whatever they are, but an error within comes first.
func TestBytesBehind(t *testing.T) {
	for _, v := range values() {
		b, _ := item.Put(v)
		for _, more := range [][]byte{{0}, {1, 2}, {0xa0}, {0xff}, {0x18}, {0x62, 0xff}, make([]byte, 5000)} {
			all := slices.Concat(b, more)
			w, n, e := item.Get(all)
			want(t, "Get", w, e, v, api.OK)
			if n != len(b) {
				t.Errorf("Get tells %d bytes, not %d", n, len(b))
			}
			w, e = item.Whole(all)
			want(t, "Whole", w, e, nil, api.ErrForm)
		}
	}
	isNone(t, bytesOf("a0 00"), api.ErrType)
	isNone(t, bytesOf("81 c0 00 00"), api.ErrType)
	isNone(t, append(around(17, []byte{0}), 0), api.ErrBig)
	isNone(t, bytesOf("61 ff 00"), api.ErrForm)
	isNone(t, bytesOf("ff 00"), api.ErrForm)
}

// P6.2: no bytes, and bytes that end at each place within a value.
func TestGetOfTooFewBytes(t *testing.T) {
	isNone(t, nil, api.ErrShort)
	isNone(t, []byte{}, api.ErrShort)
	for _, v := range values() {
		b, _ := item.Put(v)
		step := 1 + len(b)/200
		for size := 0; size < len(b); size += step {
			isNone(t, b[:size], api.ErrShort)
		}
		isNone(t, b[:len(b)-1], api.ErrShort)
		isNone(t, append([]byte{0x82}, b...), map[bool]api.Errno{true: api.ErrShort, false: api.ErrBig}[item.Count(v) < 4095 && !tooDeep(v)])
	}
}

// tooDeep tells whether a value may not be with one list more around it.
func tooDeep(v any) bool {
	return slices.ContainsFunc(inOrder(v), func(p placed) bool { return p.around == 16 })
}

// P6.2: heads that tell more than there are bytes, by one and by very many, of bytes, texts and lists.
func TestGetOfTooMuchTold(t *testing.T) {
	for _, there := range []int{0, 1, 2, 23, 24, 300} {
		n := uint64(there)
		for _, more := range []uint64{n + 1, n + 2, n + 256, 1 << 16, 1 << 31, 1<<31 - 1, 1<<32 - 1, 1 << 32, 1<<32 + n, math.MaxInt64, 1 << 63, 1<<63 + n, math.MaxUint64 - n, math.MaxUint64 - 8, math.MaxUint64} {
			for _, major := range []int{2, 3, 4} {
				b := append(lead(major, more), make([]byte, there)...)
				isNone(t, b, api.ErrShort)
				isNone(t, append([]byte{0x82, 0x00}, b...), api.ErrShort)
				isNone(t, around(10, b), api.ErrShort)
			}
		}
		for _, major := range []int{2, 3, 4} {
			isRead(t, append(lead(major, n), make([]byte, there)...))
		}
	}
	for _, n := range []uint64{4096, 5000, 1 << 32, math.MaxUint64} {
		isNone(t, append(lead(4, n), make([]byte, 4094)...), api.ErrShort)
		isNone(t, append(lead(4, n), make([]byte, 4095)...), api.ErrBig)
		isNone(t, append(lead(4, n), make([]byte, 6000)...), api.ErrBig)
	}
}

// P6.2: maps, tags, and all of major type 7 that are no value, alone and within lists.
func TestGetOfOtherTypes(t *testing.T) {
	var l [][]byte
	for _, n := range ends() {
		l = append(l, lead(5, n), lead(6, n), append(lead(5, n), 1, 2), append(lead(6, n), 0))
		if n < 20 || n > 22 {
			l = append(l, lead(7, n))
		}
	}
	for n := range uint64(70000) {
		if n < 20 || n > 22 {
			l = append(l, lead(7, n))
		}
	}
	l = append(l, bytesOf("a0"), bytesOf("a1 01 02"), bytesOf("c1 00"), bytesOf("c2 41 01"), bytesOf("d8 18 40"), bytesOf("f7"), bytesOf("e0"), bytesOf("f3"), bytesOf("f8 20"), bytesOf("f8 ff"), bytesOf("f9 3c00"), bytesOf("fa 47c35000"), bytesOf("fb 3ff199999999999a"))
	for _, b := range l {
		for _, c := range [][]byte{b, append(b, 0), append([]byte{0x81}, b...), append([]byte{0x82, 0x80}, b...), append([]byte{0x82, 0x81}, append(b, 0)...), around(16, b)} {
			isNone(t, c, api.ErrType)
		}
	}
}

// P6.2: heads that are none, alone and within lists: of no length, of an end, and those that are not the shortest.
func TestGetOfWrongHeads(t *testing.T) {
	l := [][]byte{head.Open(), head.Break(), bytesOf("9f ff"), bytesOf("9f 01 ff"), bytesOf("5f 41 00 ff"), bytesOf("7f ff"), bytesOf("bf ff"), bytesOf("1c"), bytesOf("3d"), bytesOf("5e"), bytesOf("fc"),
		bytesOf("18 17"), bytesOf("18 00"), bytesOf("19 00ff"), bytesOf("1a 0000ffff"), bytesOf("1b 00000000ffffffff"), bytesOf("38 00"), bytesOf("39 0017"), bytesOf("58 00"), bytesOf("58 01 07"), bytesOf("78 01 61"), bytesOf("79 0000"),
		bytesOf("98 00"), bytesOf("98 01 00"), bytesOf("99 0001 00"), bytesOf("9b 0000000000000000"), bytesOf("b8 00"), bytesOf("d8 17 00"), bytesOf("f8 14"), bytesOf("f8 15"), bytesOf("f8 16"), bytesOf("f8 00"), bytesOf("f9 0000"), bytesOf("f9 0014")}
	for _, b := range l {
		for _, c := range [][]byte{b, append(b, 0, 0), append([]byte{0x81}, b...), append([]byte{0x83, 0x00, 0x61, 0x61}, b...), append([]byte{0x82, 0x81, 0x80}, b...), around(16, b)} {
			isNone(t, c, api.ErrForm)
		}
	}
}

// P6.2: texts that are valid UTF-8, and texts that are not, alone and within lists: all of up to two bytes, and the edges of more.
func TestGetOfTexts(t *testing.T) {
	for _, s := range wrongTexts {
		b := append(lead(3, uint64(len(s))), s...)
		for _, c := range [][]byte{b, append(b, 0), append([]byte{0x81}, b...), append([]byte{0x82, 0x61, 0x61}, b...), append([]byte{0x82}, append(b, 0x61, 0x61)...), around(16, b)} {
			isNone(t, c, api.ErrForm)
		}
		v, e := item.Whole(append(lead(2, uint64(len(s))), s...))
		want(t, "Whole of such bytes", v, e, any([]byte(s)), api.OK)
	}
	for _, s := range append(rightTexts, strings.Repeat("\u00e9", 40000)) {
		b := append(lead(3, uint64(len(s))), s...)
		isRead(t, b)
		isRead(t, append([]byte{0x81}, b...))
	}
	for k := range 1 << 16 {
		isRead(t, []byte{0x62, byte(k >> 8), byte(k)})
		isRead(t, []byte{0x82, 0x61, byte(k >> 8), byte(k)})
	}
}

// P6.2: 16 lists around any value, and one more, whatever that one is, even if it is not there.
func TestGetOfDeepValues(t *testing.T) {
	for _, in := range []string{"00", "20", "40", "43010203", "60", "6161", "80", "f4", "f5", "f6", "1903e8"} {
		for many := range 20 {
			isRead(t, around(many, bytesOf(in)))
			isRead(t, slices.Concat([]byte{0x83, 0x00}, around(many, bytesOf(in)), []byte{0x00}))
		}
	}
	for _, in := range []string{"", "00", "80", "81", "a0", "ff", "9f", "1800", "18", "61ff", "c0", "f7", "62"} {
		for _, many := range []int{17, 18, 100, 5000} {
			isNone(t, around(many, bytesOf(in)), api.ErrBig)
		}
	}
	isNone(t, around(16, nil), api.ErrShort)
	isNone(t, around(16, bytesOf("a0")), api.ErrType)
	isNone(t, around(16, bytesOf("81")), api.ErrBig)
	isNone(t, around(16, bytesOf("82")), api.ErrBig)
	v, e := item.Whole(around(16, bytesOf("80")))
	want(t, "Whole of 17 lists", v, e, nested(16, []any{}), api.OK)
}

// P6.2: 4096 values together, and one more, flat and within one another, whatever that one is, even if it is not there.
func TestGetOfManyValues(t *testing.T) {
	flat := func(told uint64, there int, more string) []byte {
		return slices.Concat(lead(4, told), make([]byte, there), bytesOf(more))
	}
	v, e := item.Whole(flat(4095, 4095, ""))
	want(t, "Whole of 4096 together", v, e, any(slices.Repeat([]any{uint64(0)}, 4095)), api.OK)
	isNone(t, flat(4096, 4096, ""), api.ErrBig)
	isNone(t, flat(4095, 4094, ""), api.ErrShort)
	for _, one := range []string{"", "00", "80", "a0", "ff", "9f", "1800", "18", "61ff", "c0", "f7", "62", "8100"} {
		isNone(t, flat(4096, 4095, one), api.ErrBig)
		isNone(t, flat(4095, 4094, "81"+one), api.ErrBig)
		isNone(t, append([]byte{0x82}, flat(4094, 4094, one)...), api.ErrBig)
		isNone(t, slices.Concat([]byte{0x98, 65}, bytes.Repeat(flat(62, 62, ""), 64), flat(63, 62, one)), api.ErrBig)
		isNone(t, slices.Concat(lead(4, 4096), bytes.Repeat([]byte{0x80}, 4095), bytesOf(one)), api.ErrBig)
	}
	isRead(t, slices.Concat([]byte{0x98, 65}, bytes.Repeat(flat(62, 62, ""), 65)))
	isRead(t, slices.Concat(lead(4, 4095), bytes.Repeat([]byte{0x80}, 4095)))
	isRead(t, slices.Concat(lead(4, 2047), bytes.Repeat([]byte{0x81, 0xf6}, 2047), []byte{9}))
	isRead(t, around(15, flat(4080, 4080, "")))
	isNone(t, around(15, flat(4081, 4081, "")), api.ErrBig)
	isNone(t, flat(4095, 4094, "a0"), api.ErrType)
	isNone(t, flat(4095, 4094, "ff"), api.ErrForm)
}

// P6.2: of two faults the one that is met first, in one value and in a list.
func TestGetOfTwoFaults(t *testing.T) {
	for _, c := range []struct {
		hex string
		is  api.Errno
	}{
		{"62 ff", api.ErrShort}, {"63 ffff", api.ErrShort}, {"7b ffffffffffffffff ff", api.ErrShort}, {"78 17", api.ErrForm}, {"79 00", api.ErrShort}, {"b8 00", api.ErrForm}, {"b8", api.ErrShort}, {"d9 00", api.ErrShort}, {"f8 14", api.ErrForm}, {"f8", api.ErrShort}, {"f9 3c", api.ErrShort}, {"bf", api.ErrForm}, {"5f ff", api.ErrForm},
		{"82 a0 ff", api.ErrType}, {"82 ff a0", api.ErrForm}, {"82 61ff a0", api.ErrForm}, {"82 a0 61ff", api.ErrType}, {"82 a0", api.ErrType}, {"82 ff", api.ErrForm}, {"82 61ff", api.ErrForm}, {"83 00 1800", api.ErrForm}, {"83 00 c0", api.ErrType}, {"82 42 00", api.ErrShort}, {"82 62 ff", api.ErrShort}, {"82 81 a0 ff", api.ErrType}, {"82 81 ff a0", api.ErrForm}, {"9b ffffffffffffffff f7", api.ErrType}, {"9b ffffffffffffffff ff", api.ErrForm},
		{"82 8181818181818181818181818181818100 a0", api.ErrBig}, {"82 a0 8181818181818181818181818181818100", api.ErrType}, {"82 81818181818181818181818181818100 a0", api.ErrType}, {"8181818181818181818181818181818181a0", api.ErrBig}, {"82 62ff", api.ErrShort}, {"82 80", api.ErrShort}, {"82 9f a0", api.ErrForm},
	} {
		isNone(t, bytesOf(c.hex), c.is)
		isRead(t, bytesOf(c.hex))
	}
}

// P6.2, P6.4: all rows of up to two bytes, and all of up to four out of bytes at which something ends: each is one value's alone, or none's.
func TestGetOfAllBeginnings(t *testing.T) {
	for k := range 1 << 16 {
		isRead(t, []byte{byte(k >> 8), byte(k)})
		isRead(t, []byte{byte(k >> 8), byte(k), 0x00, 0xff})
	}
	some := bytesOf("00 17 18 1c 20 38 40 41 42 60 61 62 7f 80 81 82 83 98 9f a0 c3 a9 e0 f4 f5 f6 f7 f8 ff")
	var rows func(b []byte)
	rows = func(b []byte) {
		isRead(t, b)
		if len(b) < 4 {
			for _, next := range some {
				rows(append(slices.Clip(b), next))
			}
		}
	}
	rows(nil)
}
