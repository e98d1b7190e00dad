package block_test

import (
	"bytes"
	"encoding/binary"
	"fmt"
	"hash/crc32"
	"math"
	"math/bits"
	"slices"
	"strings"
	"testing"

	"wagtail/api"
)

// greatest is the greatest number that there is.
const greatest = math.MaxUint64

// Types that look like a value's, and are none.
type (
	number uint64
	list   []any
	octets []byte
)

// numbers are 0, the greatest one, those at each end of a width, and some within.
func numbers() []uint64 {
	return []uint64{0, 1, 2, 5, 23, 24, 255, 256, 65535, 65536, 1<<32 - 1, 1 << 32, 1<<63 - 1, 1 << 63, greatest - 1, greatest}
}

// otherKinds are kinds of which there are no sums.
func otherKinds() []int {
	return []int{-1, -2, -3, 3, 4, 5, 255, 256, 257, 258, 1<<16 + 1, 1<<32 + 1, 1<<32 + 2, 1 << 32, math.MinInt, math.MinInt + 1, math.MinInt + 2, math.MaxInt - 1, math.MaxInt}
}

// texts are Data, of each byte, and up to the most bytes that there may be.
func texts() []string {
	all := make([]byte, 256)
	for i := range all {
		all[i] = byte(i)
	}
	return []string{"", "h", "\x00", "\xff", "abc", "\x00\x00", "\x42\x00\x00", "\x44\x00\x00\x00\x00", "\u00e9", "\xc3", strings.Repeat("x", 23), strings.Repeat("y", 24), string(all[:255]), string(all), strings.Repeat("\xff", 257), strings.Repeat("abcdefgh", 8191) + "1234567", strings.Repeat("\x00", api.MaxText)}
}

// parts are values of each type that is no uint64 and no bytes, and some of no type.
func parts() []any {
	n, b := uint64(1), []byte("h")
	return []any{nil, true, false, "", "h", "1", "\x00\x00", "\x00\x00\x00\x00", []any{}, []any(nil), []any{n}, []any{b}, []any{n, b}, []any{nil}, []any{[]any{n}}, api.Minus(0), api.Minus(1), api.Minus(2), api.Minus(greatest),
		0, 1, 2, int64(1), int32(1), int8(1), uint(1), uint32(1), uint16(1), uint8(1), uintptr(1), 1.0, float32(1), 1i, 'a', number(0), number(1), octets("h"), octets{}, list{n}, list{}, [1]any{n}, [2]byte{}, [4]byte{}, []uint64{1}, []int{1}, []string{"h"}, [][]byte{b}, bytes.NewBufferString("h"), map[any]any{n: n}, api.Block{}, &api.Block{Number: 1}, api.OK, api.ErrType, &n, (*uint64)(nil), &b, (*[]byte)(nil), &[]any{n}, (*[]any)(nil), struct{}{}, func() {}, make(chan uint64)}
}

// notHeld are values that may not be, each by itself.
func notHeld() []any {
	deep := any([]any{})
	for range api.MaxDepth {
		deep = []any{deep}
	}
	return []any{1, int64(1), uint8(1), 1.5, "\xff", "a\xc3", number(1), octets("h"), list{}, [2]byte{}, struct{}{}, []any{1}, []any{uint64(1), "\xfe"}, []any{[]any{octets{}}}, deep, []any{deep}, slices.Repeat([]any{nil}, api.MaxItems)}
}

// headOf lays a head by a way of its own: as many bytes behind the first one as the number has, made up to 1, 2, 4 or 8.
func headOf(major byte, n uint64) []byte {
	if n < 24 {
		return []byte{major<<5 + byte(n)}
	}
	wide := binary.BigEndian.AppendUint64(nil, n)
	power := bits.Len(uint(bits.Len64(n)-1) / 8)
	return append([]byte{major<<5 + 24 + byte(power)}, wide[8-1<<power:]...)
}

// bytesOf lays a value, by a way of its own, of those types that the tests here lay.
func bytesOf(v any) []byte {
	switch w := v.(type) {
	case uint64:
		return headOf(0, w)
	case api.Minus:
		return headOf(1, uint64(w))
	case []byte:
		return append(headOf(2, uint64(len(w))), w...)
	case string:
		return append(headOf(3, uint64(len(w))), w...)
	case []any:
		row := headOf(4, uint64(len(w)))
		for _, x := range w {
			row = append(row, bytesOf(x)...)
		}
		return row
	case bool:
		if w {
			return []byte{0xf5}
		}
		return []byte{0xf4}
	}
	return []byte{0xf6}
}

// short tells a short sum as a remainder: of the bytes' bits, each byte's lowest first, the first sixteen turned, divided by x^16 + x^12 + x^5 + 1.
func short(b []byte) []byte {
	rest := uint32(0xffff)
	for _, x := range b {
		rest ^= uint32(bits.Reverse8(x)) << 8
		for range 8 {
			rest <<= 1
			if rest>>16 == 1 {
				rest ^= 0x11021
			}
		}
	}
	return binary.BigEndian.AppendUint16(nil, ^bits.Reverse16(uint16(rest)))
}

// sumOf tells a sum's bytes, by the library's way, or a way of its own.
func sumOf(kind int, b []byte) []byte {
	if kind == 1 {
		return short(b)
	}
	return binary.BigEndian.AppendUint32(nil, crc32.Checksum(b, crc32.MakeTable(crc32.Castagnoli)))
}

// sealedList is the list with its sum behind it, if kind is 1 or 2.
func sealedList(l []any, kind int) []any {
	if kind != 1 && kind != 2 {
		return slices.Clone(l)
	}
	blank := bytesOf(append(slices.Clone(l), make([]byte, 2*kind)))
	return append(slices.Clone(l), sumOf(kind, blank))
}

// valueOf is a block's value, with the sum that it ought to have.
func valueOf(b api.Block) []any {
	return sealedList([]any{b.Type, b.Number, b.Flags, uint64(b.Crc), []byte(b.Data)}, b.Crc)
}

// with is a list with another value at a place.
func with(l []any, at int, v any) []any {
	l = slices.Clone(l)
	l[at] = v
	return l
}

// brief tells a value, and of what is long how it begins.
func brief(v any) string {
	return fmt.Sprintf("%.100s", fmt.Sprintf("%#v", v))
}

// tells is what a call may answer that has an error: the error, and beside it nothing.
func tells(t *testing.T, what any, empty bool, e, want api.Errno) {
	t.Helper()
	if e != want || !empty {
		t.Errorf("%s: error %d, nothing beside it: %t; not %d alone", brief(what), e, empty, want)
	}
}
