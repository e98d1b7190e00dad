package item_test

import (
	"bytes"
	"encoding/binary"
	"encoding/hex"
	"math"
	"reflect"
	"slices"
	"strings"
	"testing"

	"wagtail/api"
	"wagtail/item"
)

// Types that look like a value's, and are none.
type (
	number uint64
	minus  api.Minus
	raw    []byte
	text   string
	list   []any
	truth  bool
)

// known are values whose bytes are known from elsewhere (RFC 8949, appendix A).
var known = []struct {
	hex string
	v   any
}{
	{"00", uint64(0)}, {"01", uint64(1)}, {"0a", uint64(10)}, {"17", uint64(23)}, {"1818", uint64(24)}, {"1819", uint64(25)}, {"1864", uint64(100)}, {"1903e8", uint64(1000)},
	{"1a000f4240", uint64(1000000)}, {"1b000000e8d4a51000", uint64(1000000000000)}, {"1bffffffffffffffff", uint64(18446744073709551615)},
	{"20", api.Minus(0)}, {"29", api.Minus(9)}, {"3863", api.Minus(99)}, {"3903e7", api.Minus(999)}, {"3bffffffffffffffff", api.Minus(18446744073709551615)},
	{"f4", false}, {"f5", true}, {"f6", nil}, {"40", []byte{}}, {"4401020304", []byte{1, 2, 3, 4}},
	{"60", ""}, {"6161", "a"}, {"6449455446", "IETF"}, {"62225c", "\"\\"}, {"62c3bc", "\u00fc"}, {"63e6b0b4", "\u6c34"}, {"64f0908591", "\U00010151"},
	{"80", []any{}}, {"83010203", []any{uint64(1), uint64(2), uint64(3)}}, {"8301820203820405", []any{uint64(1), []any{uint64(2), uint64(3)}, []any{uint64(4), uint64(5)}}},
	{"98190102030405060708090a0b0c0d0e0f101112131415161718181819", upTo(25)},
}

// upTo tells the list of the numbers from 1 on.
func upTo(n int) []any {
	l := make([]any, n)
	for i := range l {
		l[i] = uint64(i + 1)
	}
	return l
}

// ends are the numbers at which a width ends, and those beside them.
func ends() []uint64 {
	l := []uint64{0, 1, 22, 23, 24, 25, math.MaxUint64 - 1, math.MaxUint64, math.MaxInt64, 1 << 63, 0x0102030405060708}
	for _, wide := range []int{8, 16, 32} {
		l = append(l, 1<<wide-2, 1<<wide-1, 1<<wide, 1<<wide+1)
	}
	return l
}

// values are values that may be, each another one, made anew by each call.
func values() []any {
	l := []any{nil, false, true}
	for _, n := range ends() {
		l = append(l, n, api.Minus(n))
	}
	for _, size := range []int{0, 1, 2, 23, 24, 255, 256, 65535, 65536} {
		l = append(l, bytes.Repeat([]byte{7}, size), strings.Repeat("\a", size))
	}
	for _, size := range []int{0, 1, 2, 23, 24, 255, 256, 4095} {
		l = append(l, upTo(size))
	}
	for _, s := range rightTexts[1:] {
		l = append(l, s, []byte(s))
	}
	for _, k := range known[len(known)-2:] {
		l = append(l, k.v)
	}
	return append(l, []any{nil}, []any{nil, nil}, []any{[]any{}}, []any{[]any{}, []any{}}, []any{[]any{nil}}, []any{false}, []any{"", []byte{}}, []any{[]byte{}, ""},
		[]any{uint64(7), api.Minus(0), []byte{1}, "\u00e9", true, nil, []any{}},
		[]any{[]any{[]byte{1, 2}, []any{[]byte{3}, "x"}}, []byte{4, 5, 6}, []any{[]byte{7}}},
		nested(1, uint64(5)), nested(15, uint64(5)), nested(16, uint64(5)), nested(16, []byte{5}), nested(16, []any{}), nested(16, nil))
}

// rightTexts are texts that are valid UTF-8, the first one empty.
var rightTexts = []string{"", "\x00", "\x7f", "\u0080", "\u07ff", "\u0800", "\ud7ff", "\ue000", "\ufffd", "\uffff", "\U00010000", "\U0010ffff", "a\u00e9\u6c34\U0001f600b", "\r\n\t"}

// wrongTexts are texts that are not.
var wrongTexts = []string{"\x80", "\xbf", "\xc0\x80", "\xc1\xbf", "\xc3", "\xc3a", "a\xc3", "\xe0\x80\x80", "\xe6\xb0", "\xe6\xb0a", "\xed\xa0\x80", "\xed\xbf\xbf", "\xf0\x80\x80\x80", "\xf0\x9f\x98", "\xf4\x90\x80\x80", "\xf5\x80\x80\x80", "\xff", "\xfe", "ab\xffcd", "\u00e9\xa9"}

// nested tells v with so many lists around it.
func nested(around int, v any) any {
	for range around {
		v = []any{v}
	}
	return v
}

// others are values of none of the types.
func others() []any {
	n, b, l := uint64(1), []byte{1}, []any{uint64(1)}
	return []any{int(1), int8(1), int16(1), int32(1), int64(1), uint(1), uint8(1), uint16(1), uint32(1), uintptr(1), 'a', 1.0, float32(1), 1i, complex64(1),
		number(1), minus(1), raw{1}, text("a"), list{}, truth(true), api.OK, api.Eid{}, api.Stamp{}, &n, &b, &l, (*uint64)(nil), (*[]any)(nil), (*any)(nil),
		[]int{1}, []uint64{1}, []string{"a"}, [][]byte{{1}}, []bool{true}, []api.Minus{1}, [][]any{}, []int(nil), []int8{1}, []rune("a"), [1]byte{1}, [1]any{nil}, [0]any{}, map[string]any{}, map[any]any(nil),
		struct{}{}, func() {}, (func())(nil), make(chan int), api.ErrType, list(nil), raw(nil)}
}

// lead tells the head of a value, n in the fewest of the widths that there are.
func lead(major int, n uint64) []byte {
	wide := binary.BigEndian.AppendUint64(nil, n)
	for i, size := range []int{1, 2, 4, 8} {
		switch {
		case n < 24:
			return []byte{byte(major<<5) | byte(n)}
		case size == 8 || n>>(8*size) == 0:
			return append([]byte{byte(major<<5) | byte(24+i)}, wide[8-size:]...)
		}
	}
	return nil
}

// want tells what is wrong with an answer, if it is not that error alone, or that value.
func want[T any](t *testing.T, what string, got T, e api.Errno, wanted T, err api.Errno) {
	t.Helper()
	if e != err || !reflect.DeepEqual(got, wanted) {
		t.Errorf("%s = %.80v, %d, not %.80v, %d", what, got, e, wanted, err)
	}
}

// bytesOf tells the bytes that a text of hexadecimal digits tells.
func bytesOf(digits string) []byte {
	b, err := hex.DecodeString(strings.ReplaceAll(digits, " ", ""))
	if err != nil {
		panic(err)
	}
	return b
}

// P6.3: Uint, Bytes, Text and List, of values of each type, and of others: each is of one type at most.
func TestOneTypeEach(t *testing.T) {
	for _, v := range slices.Concat(values(), others(), []any{[]any(nil), []byte(nil), "\xff", list(nil)}) {
		n, isUint := item.Uint(v)
		b, isBytes := item.Bytes(v)
		s, isText := item.Text(v)
		l, isList := item.List(v)
		var wanted [4]bool
		switch w := v.(type) {
		case uint64:
			wanted[0] = n == w && b == nil && s == "" && l == nil
		case []byte:
			wanted[1] = bytes.Equal(b, w) && n == 0 && s == "" && l == nil
		case string:
			wanted[2] = s == w && n == 0 && b == nil && l == nil
		case []any:
			wanted[3] = len(l) == len(w) && (len(w) == 0 || reflect.DeepEqual(l, w)) && n == 0 && b == nil && s == ""
		default:
			if n != 0 || b != nil || s != "" || l != nil {
				t.Errorf("%T %.40v: %d, %v, %q, %v, though it is none of those", v, v, n, b, s, l)
			}
		}
		if got := [4]bool{isUint, isBytes, isText, isList}; got != wanted {
			t.Errorf("%T %.40v: is a number, bytes, a text, a list: %v, not %v", v, v, got, wanted)
		}
	}
}

// P6.3: a list that may not be is one all the same: too deep, too long, with values of no type in it.
func TestListsThatMayNotBe(t *testing.T) {
	for _, v := range []any{nested(17, nil), nested(1000, []byte{1, 2}), upTo(5000), []any{3, "\xff", []int{1}}, []any{nil, upTo(5000)}} {
		if l, ok := item.List(v); !ok || !reflect.DeepEqual(any(l), v) {
			t.Errorf("List(%.40v) = %.40v, %t", v, l, ok)
		}
	}
	if v := item.At([]any{3, text("a"), nested(500, "a")}, 0); v != 3 {
		t.Error("what is of no type stands at its place:", v)
	}
	if v := item.At([]any{3, text("a"), nested(500, "a")}, 2); !reflect.DeepEqual(v, nested(500, "a")) {
		t.Error("what is too deep stands at its place:", v)
	}
}

// P6.3: At and Must at each place of a list, and at places that it does not have.
func TestPlaces(t *testing.T) {
	l := append(values(), others()...)
	for i, v := range l {
		n, _ := v.(uint64)
		if got := item.Must(l, i); got != n {
			t.Errorf("Must at %d = %d, not %d", i, got, n)
		}
		if reflect.TypeOf(v) != nil && reflect.TypeOf(v).Kind() == reflect.Func {
			continue
		}
		if got := item.At(l, i); !reflect.DeepEqual(got, v) {
			t.Errorf("At %d = %T %.40v, not %T %.40v", i, got, got, v, v)
		}
	}
	for size := range 4 {
		for _, i := range []int{-1, -2, -size, -size - 1, size, size + 1, math.MinInt, math.MinInt + 1, math.MaxInt, math.MinInt32, math.MaxInt32, 1 << 32, 1<<32 + 1} {
			if i >= 0 && i < size {
				continue
			}
			if v := item.At(upTo(size), i); v != nil {
				t.Errorf("At(%v, %d) = %v", upTo(size), i, v)
			}
			if n := item.Must(upTo(size), i); n != 0 {
				t.Errorf("Must(%v, %d) = %d", upTo(size), i, n)
			}
		}
		for i := range size {
			if v, n := item.At(upTo(size), i), item.Must(upTo(size), i); v != uint64(i+1) || n != uint64(i+1) {
				t.Errorf("At, Must(%v, %d) = %v, %d", upTo(size), i, v, n)
			}
		}
	}
}

// P6.3: At and Must of what is no list.
func TestPlacesOfNoList(t *testing.T) {
	for _, v := range append(values(), others()...) {
		if l, ok := v.([]any); ok && len(l) > 0 {
			continue
		}
		for _, i := range []int{-1, 0, 1, 2, math.MinInt, math.MaxInt} {
			if w, n := item.At(v, i), item.Must(v, i); w != nil || n != 0 {
				t.Errorf("At, Must(%T %.40v, %d) = %v, %d", v, v, i, w, n)
			}
		}
	}
}

// P6.3: Must of numbers at the ends of their type, and of values that look like numbers.
func TestMustOfOtherValues(t *testing.T) {
	for _, n := range ends() {
		if got := item.Must([]any{"a", n}, 1); got != n {
			t.Errorf("Must = %d, not %d", got, n)
		}
		if got := item.Must([]any{api.Minus(n)}, 0); got != 0 {
			t.Errorf("Must of %d below 0 = %d", n, got)
		}
	}
	for i, v := range []any{7, uint8(7), number(7), "7", []byte{7}, []any{uint64(7)}, nil, true, 7.0} {
		if got := item.Must([]any{v}, 0); got != 0 {
			t.Errorf("Must of value %d = %d", i, got)
		}
	}
}

// P6.3: Count of values that may be, and of those that may not.
func TestCount(t *testing.T) {
	for _, v := range append(values(), others()...) {
		if _, ok := v.([]any); !ok && item.Count(v) != 1 {
			t.Errorf("Count(%T %.40v) = %d, not 1", v, v, item.Count(v))
		}
	}
	for i, c := range []struct {
		v    any
		many int
	}{
		{nil, 1}, {[]any(nil), 1}, {[]any{}, 1}, {[]any{nil}, 2}, {[]any{[]any{}}, 2}, {upTo(25), 26}, {[]any{upTo(3), nil, upTo(4)}, 11}, {nested(16, []byte{1, 2, 3}), 17}, {[]any{"abc", []byte("abc")}, 3},
		{upTo(4095), 4096}, {upTo(4096), 4097}, {upTo(100000), 100001}, {nested(17, nil), 18}, {nested(60000, nil), 60001}, {[]any{3, []int{1, 2, 3}, list{nil, nil}, "\xff"}, 5}, {list{nil}, 1},
		{[]any{upTo(4095), upTo(4095), []any{[]any{}, nested(20, 3)}}, 1 + 4096 + 4096 + 1 + 1 + 21}, {others(), len(others()) + 1}, {nested(1<<16, nil), 1<<16 + 1},
	} {
		if got := item.Count(c.v); got != c.many {
			t.Errorf("%d: Count = %d, not %d", i, got, c.many)
		}
	}
	if l := slices.Repeat([]any{upTo(2000)}, 1000); item.Count(l) != 1+1000*2001 {
		t.Error("one list at many places counts at each:", item.Count(l))
	}
}

// P6.4: each value is the same as itself, made anew, and as no other one.
func TestSame(t *testing.T) {
	l, again := values(), values()
	for i, v := range l {
		for k, w := range again {
			if got := item.Same(v, w); got != (i == k) {
				t.Errorf("Same(%T %.40v, %T %.40v) = %t", v, v, w, w, got)
			}
		}
	}
}

// P6.4: values that differ in type alone, in length alone, in one value alone, in where lists begin alone; those that have no bytes are the same, nil or empty.
func TestSameOfValuesThatAreAlike(t *testing.T) {
	one := uint64(1)
	for i, c := range [][2]any{
		{uint64(0), api.Minus(0)}, {uint64(0), nil}, {uint64(0), false}, {uint64(1), true}, {false, nil}, {"", nil}, {"", []byte{}}, {[]byte(nil), nil}, {[]any(nil), nil}, {[]any{}, []byte{}}, {[]any{}, ""}, {"a", []byte("a")}, {"1", one}, {[]any{one}, one}, {[]byte{1}, one}, {[]any{nil}, []any{}}, {[]any{nil}, nil},
		{"a", "ab"}, {"a", "a\x00"}, {[]byte{1}, []byte{1, 0}}, {[]byte{0}, []byte{}}, {upTo(3), upTo(4)}, {[]any{one, one}, []any{one}}, {[]any{one, []any{}}, []any{one}},
		{upTo(3), []any{one, uint64(2), uint64(4)}}, {[]any{one, "a"}, []any{one, "b"}}, {[]any{upTo(2), "a"}, []any{upTo(2), []byte("a")}}, {[]any{upTo(2), upTo(3)}, []any{upTo(2), []any{one, uint64(2), api.Minus(3)}}}, {nested(16, one), nested(16, api.Minus(1))}, {nested(15, one), nested(16, one)},
		{[]any{[]any{one}, one}, []any{one, []any{one}}}, {[]any{[]any{one, one}}, []any{one, []any{one}}}, {[]any{"ab", "c"}, []any{"a", "bc"}}, {[]any{nil, false}, []any{false, nil}},
	} {
		if item.Same(c[0], c[1]) || item.Same(c[1], c[0]) {
			t.Errorf("%d: %v and %v are the same", i, c[0], c[1])
		}
	}
	for i, c := range [][2]any{{[]byte(nil), []byte{}}, {[]any(nil), []any{}}, {[]any{[]any(nil), []byte{}}, []any{[]any{}, []byte(nil)}}, {nil, any(error(nil))}} {
		if !item.Same(c[0], c[1]) || !item.Same(c[1], c[0]) {
			t.Errorf("%d: %v and %v are not the same", i, c[0], c[1])
		}
	}
}

// P6.4: what may not be is the same as nothing, itself neither.
func TestSameOfWhatMayNotBe(t *testing.T) {
	for _, v := range append(others(), "\xff", nested(17, nil), upTo(4096), []any{3}, []any{nil, "\xff"}) {
		for _, w := range []any{v, nil, uint64(1), []any{}, "", []byte{1}, "\ufffd"} {
			if item.Same(v, w) || item.Same(w, v) {
				t.Errorf("%T %.40v and %T %.40v are the same", v, v, w, w)
			}
		}
	}
}

// P6.4: Whole of Put tells each value, Put of Whole the bytes that are known of it.
func TestThereAndBackAgain(t *testing.T) {
	for _, v := range values() {
		b, e := item.Put(v)
		w, f := item.Whole(b)
		if e != api.OK {
			t.Errorf("Put(%.40v): %d", v, e)
		}
		want(t, "Whole of Put", w, f, v, api.OK)
		if !item.Same(v, w) {
			t.Errorf("%.40v, there and back again, is not the same", v)
		}
	}
	for _, k := range known {
		v, e := item.Whole(bytesOf(k.hex))
		b, f := item.Put(v)
		if e != api.OK {
			t.Errorf("Whole(%s): %d", k.hex, e)
		}
		want(t, "Put of Whole", b, f, bytesOf(k.hex), api.OK)
	}
}

// R1: a list that stands within itself: each call ends.
func TestListWithinItself(t *testing.T) {
	l := []any{nil}
	l[0] = l
	if _, e := item.Put(l); e != api.ErrBig {
		t.Error("Put:", e)
	}
	if item.Same(l, l) || item.Must(l, 0) != 0 {
		t.Error("Same, or Must")
	}
	item.Count(l)
	item.List(l)
	item.At(l, 0)
	wide := []any{nil, nil}
	wide[0], wide[1] = wide, wide
	if _, e := item.Put(wide); e != api.ErrBig || item.Same(wide, l) {
		t.Error("Put, or Same:", e)
	}
}
