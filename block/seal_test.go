package block_test

import (
	"bytes"
	"encoding/hex"
	"reflect"
	"slices"
	"strings"
	"testing"

	"wagtail/api"
	"wagtail/block"
	"wagtail/item"
)

// lists are some that may be: of none, of one value of each type, of many, within one another, and such that end like a list with a sum.
func lists() [][]any {
	n, b := uint64(1), []byte("h")
	l := [][]any{{}, {n}, {b}, {"h"}, {nil}, {true}, {false}, {api.Minus(0)}, {api.Minus(greatest)}, {[]any{}}, {[]any{n, b}}, {[]byte{}}, {""}, {n, "h"}, {n, b, "h", nil, true, false, api.Minus(5), []any{n, []any{b}}}, {"\u00e9", strings.Repeat("x", 300)}, {make([]byte, 70000)}, {n, make([]byte, 2)}, {n, make([]byte, 4)}, {make([]byte, 2), make([]byte, 4)}, {make([]byte, 1)}, {make([]byte, 3)}, {"\x00\x00"}, slices.Repeat([]any{n}, 22), slices.Repeat([]any{n}, 23), slices.Repeat([]any{n}, 24), slices.Repeat([]any{n}, 254), slices.Repeat([]any{n}, 255), slices.Repeat([]any{n}, 256), slices.Repeat([]any{any("ab")}, api.MaxItems-2)}
	for _, m := range numbers() {
		l = append(l, []any{m}, []any{m, m}, []any{"h", m, b})
	}
	for _, b := range little() {
		l = append(l, valueOf(b))
	}
	return l
}

// none is a list that is nil.
var none []any

// isSealed looks at the bytes of a list with its sum behind it.
func isSealed(t *testing.T, l []any, kind int) {
	t.Helper()
	want := bytesOf(sealedList(l, kind))
	if row, e := block.Seal(l, kind); e != api.OK || !bytes.Equal(row, want) {
		t.Errorf("Seal(%s, %d) = %.50x, %d, not %.50x", brief(l), kind, row, e, want)
	}
}

// notSealed looks at what is told of a list that has no bytes with such a sum.
func notSealed(t *testing.T, l []any, kind int, want api.Errno) {
	t.Helper()
	row, e := block.Seal(l, kind)
	tells(t, l, len(row) == 0, e, want)
}

// opens looks at what is read of a list.
func opens(t *testing.T, v any, l []any, kind int) {
	t.Helper()
	got, k, e := block.Open(v)
	if e != api.OK || k != kind || len(got) != len(l) || len(l) > 0 && !reflect.DeepEqual(got, l) {
		t.Errorf("Open(%s) = %s, %d, %d, not %s, %d", brief(v), brief(got), k, e, brief(l), kind)
	}
}

// notOpened looks at what is told of a value that is not opened.
func notOpened(t *testing.T, v any, want api.Errno) {
	t.Helper()
	got, kind, e := block.Open(v)
	tells(t, v, len(got) == 0 && kind == 0, e, want)
}

// P9.3: lists whose bytes are known from elsewhere, with sums that were told by tables.
func TestKnownLists(t *testing.T) {
	for digits, c := range map[string]struct {
		l    []any
		kind int
	}{
		"80": {[]any{}, 0}, "81427ec5": {[]any{}, 1}, "81447306745b": {[]any{}, 2}, "82016168": {[]any{uint64(1), "h"}, 0}, "8301616842c32d": {[]any{uint64(1), "h"}, 1}, "83016168445e13352e": {[]any{uint64(1), "h"}, 2},
	} {
		want, f := hex.DecodeString(digits)
		if row, e := block.Seal(c.l, c.kind); f != nil || e != api.OK || !bytes.Equal(row, want) {
			t.Errorf("%s: %v, Seal is %x, %d", digits, f, row, e)
		}
		v, e := item.Whole(want)
		if e != api.OK {
			t.Errorf("%s: %d", digits, e)
		}
		opens(t, v, c.l, c.kind)
	}
}

// P9.3: lists that are sealed, with each kind of sum, and opened again, by way of bytes, too; also what was sealed already.
func TestSealedAndOpened(t *testing.T) {
	for kind := range 3 {
		isSealed(t, none, kind)
		for _, l := range lists() {
			isSealed(t, l, kind)
			if kind == 0 {
				continue
			}
			opens(t, sealedList(l, kind), l, kind)
			row, _ := block.Seal(l, kind)
			v, e := item.Whole(row)
			if e != api.OK {
				t.Errorf("%s: %d", brief(l), e)
			}
			opens(t, v, l, kind)
			for again := 1; again <= 2; again++ {
				twice := sealedList(sealedList(l, kind), again)
				if item.Count(twice) <= api.MaxItems {
					isSealed(t, sealedList(l, kind), again)
					opens(t, twice, sealedList(l, kind), again)
				}
			}
		}
	}
}

// P9.3: kinds that are none, of lists that may be, and of those that may not.
func TestSealOfOtherKinds(t *testing.T) {
	for _, kind := range otherKinds() {
		notSealed(t, none, kind, api.ErrArg)
		for _, l := range lists() {
			notSealed(t, l, kind, api.ErrArg)
		}
		for _, v := range notHeld() {
			notSealed(t, []any{v}, kind, api.ErrArg)
			notSealed(t, []any{v, 1}, kind, api.ErrArg)
		}
	}
}

// P9.3: values that may not be, at each place, with item.Put's error, whatever the kind.
func TestSealOfOtherValues(t *testing.T) {
	for kind := range 3 {
		for _, v := range notHeld() {
			for _, l := range [][]any{{v}, {v, uint64(1)}, {uint64(1), v}, {uint64(1), v, "h"}, {[]any{v}}, {"h", []any{uint64(1), v}}} {
				_, want := item.Put(l)
				if want != api.ErrType && want != api.ErrBig {
					t.Errorf("%s may be", brief(l))
				}
				notSealed(t, l, kind, want)
			}
		}
		for _, v := range parts() {
			if _, e := item.Put(v); e == api.OK {
				isSealed(t, []any{v, v}, kind)
			} else {
				notSealed(t, []any{v, v}, kind, e)
			}
		}
	}
}

// P9.3: as many values as there may be, the list and the sum counted; and the first error that is met.
func TestSealOfTooMany(t *testing.T) {
	n := any(uint64(1))
	for _, c := range []struct{ values, kind int }{{api.MaxItems - 1, 0}, {api.MaxItems - 2, 0}, {api.MaxItems - 2, 1}, {api.MaxItems - 2, 2}} {
		isSealed(t, slices.Repeat([]any{n}, c.values), c.kind)
	}
	for _, c := range []struct{ values, kind int }{{api.MaxItems, 0}, {api.MaxItems - 1, 1}, {api.MaxItems - 1, 2}, {api.MaxItems, 1}, {api.MaxItems, 2}, {3 * api.MaxItems, 0}, {3 * api.MaxItems, 1}} {
		l := slices.Repeat([]any{n}, c.values)
		notSealed(t, l, c.kind, api.ErrBig)
		notSealed(t, with(l, 0, 1), c.kind, api.ErrType)
		notSealed(t, append(slices.Clone(l), 1), c.kind, api.ErrBig)
	}
	notSealed(t, with(slices.Repeat([]any{n}, api.MaxItems-1), api.MaxItems-2, 1), 1, api.ErrType)
}

// P9.3: as many lists within one another as there may be, and one more.
func TestSealOfDeepLists(t *testing.T) {
	deep := []any{uint64(1)}
	for around := 1; around <= api.MaxDepth+3; around++ {
		for kind := range 3 {
			if around > api.MaxDepth {
				notSealed(t, deep, kind, api.ErrBig)
				continue
			}
			isSealed(t, deep, kind)
			if kind > 0 {
				opens(t, sealedList(deep, kind), deep, kind)
			}
		}
		deep = []any{deep}
	}
}

// P9.3: what is no list.
func TestOpenOfNoList(t *testing.T) {
	for _, v := range append(parts(), uint64(1), uint64(0), []byte("h"), []byte{}, make([]byte, 2), make([]byte, 4), bytesOf(sealedList(none, 1)), list(sealedList(none, 2))) {
		if _, ok := v.([]any); !ok {
			notOpened(t, v, api.ErrType)
		}
	}
}

// P9.3: lists that end with no sum: of none, with last values of other types, and of other lengths.
func TestOpenOfListsWithoutSum(t *testing.T) {
	opens(t, none, none, 0)
	opens(t, []any{}, none, 0)
	for _, size := range []int{0, 1, 3, 5, 6, 8, 16, 256, 65538, 65540, 1<<18 + 2} {
		opens(t, []any{make([]byte, size)}, []any{make([]byte, size)}, 0)
		opens(t, []any{make([]byte, 2), make([]byte, size)}, []any{make([]byte, 2), make([]byte, size)}, 0)
	}
	for _, l := range lists() {
		if b, ok := item.Bytes(item.At(l, len(l)-1)); !ok || len(b) != 2 && len(b) != 4 {
			opens(t, l, l, 0)
		}
		for _, last := range []any{"\x00\x00", "\x00\x00\x00\x00", uint64(0), []any{make([]byte, 2)}, []any{make([]byte, 4)}, nil, api.Minus(3), true, []byte{7}, []byte{1, 2, 3}, []byte{1, 2, 3, 4, 5}, []byte{}} {
			opens(t, append(slices.Clone(l), last), append(slices.Clone(l), last), 0)
		}
		for kind := 1; kind <= 2; kind++ {
			sealed := sealedList(l, kind)
			asText := with(sealed, len(l), string(sealed[len(l)].([]byte)))
			opens(t, asText, asText, 0)
			opens(t, []any{sealed}, []any{sealed}, 0)
			before := append([]any{sealed[len(l)]}, append(slices.Clone(l), "end")...)
			opens(t, before, before, 0)
		}
	}
}

// P9.3: sums that are other ones: each bit another one, noughts, that of the list without its own place, and that of another list.
func TestOpenOfOtherSums(t *testing.T) {
	for _, l := range lists() {
		for kind := 1; kind <= 2; kind++ {
			sum := sealedList(l, kind)[len(l)].([]byte)
			for bit := range 8 * len(sum) {
				torn := slices.Clone(sum)
				torn[bit/8] ^= 1 << (bit % 8)
				notOpened(t, append(slices.Clone(l), torn), api.ErrSum)
			}
			turned := slices.Clone(sum)
			slices.Reverse(turned)
			others := [][]byte{make([]byte, len(sum)), bytes.Repeat([]byte{255}, len(sum)), sumOf(kind, bytesOf(l)), sumOf(kind, bytesOf(l)[1:]), sumOf(kind, nil), sumOf(kind, bytesOf(append(slices.Clone(l), []byte{}))), sumOf(kind, bytesOf(append(slices.Clone(l), sum))), sealedList(append(slices.Clone(l), "more"), kind)[len(l)+1].([]byte), turned}
			for _, other := range others {
				if !bytes.Equal(other, sum) {
					notOpened(t, append(slices.Clone(l), other), api.ErrSum)
				}
			}
			both := append(sealedList(l, kind), sum)
			notOpened(t, both, api.ErrSum)
			notOpened(t, append([]any{"first"}, sealedList(l, kind)...), api.ErrSum)
		}
	}
}

// P9.3: values within that may not be: a list of them has no bytes, and so no sum that is right; without a sum it is told as it is.
func TestOpenOfOtherValues(t *testing.T) {
	for _, v := range notHeld() {
		opens(t, []any{v}, []any{v}, 0)
		opens(t, []any{v, "end"}, []any{v, "end"}, 0)
		for kind := 1; kind <= 2; kind++ {
			for _, sum := range [][]byte{make([]byte, 2*kind), sumOf(kind, nil), sumOf(kind, bytesOf(make([]byte, 2*kind))), bytes.Repeat([]byte{255}, 2*kind)} {
				notOpened(t, []any{v, sum}, api.ErrSum)
				notOpened(t, []any{uint64(1), []any{v}, sum}, api.ErrSum)
			}
		}
	}
	tooMany := slices.Repeat([]any{any(uint64(1))}, api.MaxItems)
	opens(t, tooMany, tooMany, 0)
	for kind := 1; kind <= 2; kind++ {
		notOpened(t, sealedList(tooMany[:api.MaxItems-1], kind), api.ErrSum)
		notOpened(t, sealedList(tooMany, kind), api.ErrSum)
		opens(t, sealedList(tooMany[:api.MaxItems-2], kind), tooMany[:api.MaxItems-2], kind)
	}
}

// R1: lists within lists, however deep, end: they have no sum that is right.
func TestSealAndOpenOfDeepestLists(t *testing.T) {
	deep := any([]any{})
	for range 1 << 15 {
		deep = []any{deep}
	}
	notOpened(t, []any{deep, make([]byte, 2)}, api.ErrSum)
	for kind := range 3 {
		notSealed(t, []any{deep}, kind, api.ErrBig)
		notSealed(t, []any{uint64(1), deep}, kind, api.ErrBig)
	}
	if l, kind, e := block.Open([]any{deep}); len(l) != 1 || kind != 0 || e != api.OK {
		t.Errorf("%d values, %d, %d", len(l), kind, e)
	}
}

// R3: what is handed in is not changed, its spare room neither, and that room counts for nothing.
func TestListsHandedInAreNotChanged(t *testing.T) {
	for _, l := range lists() {
		for kind := range 3 {
			sealed := sealedList(l, kind)
			roomy := append(slices.Clone(sealed), "more", uint64(7), []byte{1, 2})
			was := bytesOf(roomy)
			isSealed(t, roomy[:len(l)], kind)
			if kind > 0 {
				opens(t, roomy[:len(sealed)], l, kind)
			}
			if !bytes.Equal(bytesOf(roomy), was) {
				t.Errorf("%s became %s", brief(sealed), brief(roomy))
			}
		}
	}
}

// R3: what is answered is new memory, all that is within, too; neither what was handed in nor another answer hangs on what becomes of it.
func TestListsAreNewMemory(t *testing.T) {
	for kind := range 3 {
		l := []any{uint64(1), []byte("abc"), []any{[]byte("de"), []any{"f"}}}
		v := sealedList(l, kind)
		first, _, _ := block.Open(v)
		second, _, _ := block.Open(v)
		clear(first[1].([]byte))
		clear(first[2].([]any)[0].([]byte))
		clear(first[2].([]any)[1].([]any))
		clear(first[:cap(first)])
		_ = append(first, "more", "more")
		want := []any{uint64(1), []byte("abc"), []any{[]byte("de"), []any{"f"}}}
		opens(t, v, want, kind)
		clear(v[1].([]byte))
		clear(v[2].([]any)[0].([]byte))
		clear(v[2].([]any))
		clear(v)
		if !reflect.DeepEqual(second, want) {
			t.Errorf("kind %d: %s", kind, brief(second))
		}
		row, _ := block.Seal(want, kind)
		again, _ := block.Seal(want, kind)
		clear(row[:cap(row)])
		if !bytes.Equal(again, bytesOf(sealedList(want, kind))) {
			t.Errorf("kind %d: %x", kind, again)
		}
		isSealed(t, want, kind)
	}
}
