package primary_test

import (
	"bytes"
	"encoding/binary"
	"fmt"
	"hash/crc32"
	"math"
	"math/bits"
	"slices"
	"strings"
	"testing"

	"wagtail/api"
	"wagtail/primary"
)

// greatest is the greatest number that there is.
const greatest = math.MaxUint64

// Types that look like a value's, and are none.
type (
	number uint64
	text   string
	list   []any
	octets []byte
)

// me and nobody are names: somebody's, and nobody's.
var (
	me     = api.Eid{Scheme: 2, Node: 3, Service: 4}
	nobody = api.Eid{Scheme: 1}
)

// numbers are 0, the greatest one, those at each end of a width, and some within.
func numbers() []uint64 {
	return []uint64{0, 1, 2, 5, 7, 23, 24, 255, 256, 65535, 65536, 1<<32 - 1, 1 << 32, 1<<63 - 1, 1 << 63, greatest - 1, greatest}
}

// otherKinds are kinds of which there are no sums.
func otherKinds() []int {
	return []int{-1, -2, -3, 3, 4, 5, 255, 256, 257, 258, 1<<16 + 1, 1<<32 + 1, 1<<32 + 2, 1 << 32, math.MinInt, math.MinInt + 1, math.MinInt + 2, math.MaxInt - 1, math.MaxInt}
}

// names are some that may be, somebody's all of them.
func names() []api.Eid {
	return []api.Eid{me, {Scheme: 2}, {Scheme: 2, Node: 5, Service: 1}, {Scheme: 2, Node: 1, Service: 5}, {Scheme: 2, Node: greatest, Service: greatest}, {Scheme: 2, Node: 23, Service: 24}, {Scheme: 2, Service: 1 << 32}, {Scheme: 1, Name: "//a"}, {Scheme: 1, Name: "///"}, {Scheme: 1, Name: "//host/app"}, {Scheme: 1, Name: "//none"}, {Scheme: 1, Name: "//" + strings.Repeat("x", 62)}}
}

// wrongNames are some that may not be.
func wrongNames() []api.Eid {
	return []api.Eid{{}, {Scheme: 3}, {Scheme: -1}, {Scheme: 257}, {Scheme: 1<<32 + 1}, {Scheme: math.MaxInt}, {Scheme: math.MinInt}, {Node: 5, Service: 1}, {Scheme: 3, Node: 5, Service: 1}, {Scheme: 3, Name: "//a"}, {Name: "//a"}, {Scheme: 1, Node: 1}, {Scheme: 1, Service: 1}, {Scheme: 1, Name: "//a", Node: 1}, {Scheme: 1, Name: "//a", Service: 1}, {Scheme: 2, Name: "//a"}, {Scheme: 2, Name: "//a", Node: 5, Service: 1}, {Scheme: 1, Name: "//"}, {Scheme: 1, Name: "/a"}, {Scheme: 1, Name: "abc"}, {Scheme: 1, Name: "none"}, {Scheme: 1, Name: "//a b"}, {Scheme: 1, Name: "//\u00e9"}, {Scheme: 1, Name: "//\xff"}, {Scheme: 1, Name: "//" + strings.Repeat("x", 63)}, {Scheme: 1, Name: strings.Repeat("/", 100000)}}
}

// blocks are some that may be: whole bundles' and fragments', somebody's and nobody's, of each kind of sum, with all numbers and names.
func blocks() []api.Primary {
	l := little()
	names, numbers := append(names(), nobody), numbers()
	for i, a := range names {
		for j, n := range numbers {
			m := numbers[(i+3*j)%len(numbers)]
			dest, rep := names[(i+j)%len(names)], names[(i+5*j+2)%len(names)]
			p := api.Primary{Flags: n%(1<<19)&^5 | 4, Crc: (i + j) % 3, Dest: dest, Src: a, Rep: rep, Stamp: api.Stamp{Time: n, Seq: m}, Life: numbers[(2*i+j)%len(numbers)]}
			if a == nobody {
				p.Flags &= 1<<14 - 1
				l = append(l, p)
				continue
			}
			l = append(l, p)
			p.Flags ^= 5
			p.Offset, p.Total = min(n, m, greatest-1), max(n, m)
			if p.Offset == p.Total {
				p.Total = greatest
			}
			l = append(l, p)
		}
	}
	return l
}

// little are blocks whose every bit can be turned.
func little() []api.Primary {
	var l []api.Primary
	for kind := range 3 {
		l = append(l,
			api.Primary{Crc: kind, Dest: me, Src: me, Rep: me},
			api.Primary{Flags: 1, Crc: kind, Dest: me, Src: api.Eid{Scheme: 2, Node: 1}, Rep: nobody, Offset: 5, Total: 9},
			api.Primary{Flags: 4, Crc: kind, Dest: me, Src: nobody, Rep: nobody, Stamp: api.Stamp{Time: 5, Seq: 1}, Life: 1000},
			api.Primary{Flags: 1<<21 - 1 - 4, Crc: kind, Dest: api.Eid{Scheme: 1, Name: "//a"}, Src: api.Eid{Scheme: 1, Name: "//b/c"}, Rep: me, Stamp: api.Stamp{Time: greatest, Seq: 256}, Life: greatest, Offset: greatest - 1, Total: greatest},
			api.Primary{Flags: 1<<21 - 1 - 1, Crc: kind, Dest: nobody, Src: api.Eid{Scheme: 1, Name: "//b/c"}, Rep: api.Eid{Scheme: 2, Node: 24, Service: 1 << 32}, Stamp: api.Stamp{Seq: 40}, Life: 65536},
			api.Primary{Flags: 1, Crc: kind, Dest: me, Src: me, Rep: nobody, Total: 1})
	}
	return l
}

// headOf lays a head by a way of its own: as many bytes behind the first one as the number has, made up to 1, 2, 4 or 8.
func headOf(major byte, n uint64) []byte {
	if n < 24 {
		return []byte{major<<5 + byte(n)}
	}
	wide := binary.BigEndian.AppendUint64(nil, n)
	power := bits.Len(uint(bits.Len64(n)-1) / 8)
	return append([]byte{major<<5 + 24 + byte(power)}, wide[8-1<<power:]...)
}

// bytesOf lays a value, by a way of its own, of those types that the tests here lay.
func bytesOf(v any) []byte {
	switch w := v.(type) {
	case uint64:
		return headOf(0, w)
	case api.Minus:
		return headOf(1, uint64(w))
	case []byte:
		return append(headOf(2, uint64(len(w))), w...)
	case string:
		return append(headOf(3, uint64(len(w))), w...)
	case []any:
		row := headOf(4, uint64(len(w)))
		for _, x := range w {
			row = append(row, bytesOf(x)...)
		}
		return row
	}
	return []byte{0xf6}
}

// short tells a short sum as a remainder: of the bytes' bits, each byte's lowest first, the first sixteen turned, divided by x^16 + x^12 + x^5 + 1.
func short(b []byte) []byte {
	rest := uint32(0xffff)
	for _, x := range b {
		rest ^= uint32(bits.Reverse8(x)) << 8
		for range 8 {
			rest <<= 1
			if rest>>16 == 1 {
				rest ^= 0x11021
			}
		}
	}
	return binary.BigEndian.AppendUint16(nil, ^bits.Reverse16(uint16(rest)))
}

// sumOf tells a sum's bytes, by the library's way, or a way of its own.
func sumOf(kind int, b []byte) []byte {
	if kind == 1 {
		return short(b)
	}
	return binary.BigEndian.AppendUint32(nil, crc32.Checksum(b, crc32.MakeTable(crc32.Castagnoli)))
}

// sealed is the list with its sum behind it, if kind is 1 or 2.
func sealed(l []any, kind int) []any {
	if kind != 1 && kind != 2 {
		return slices.Clone(l)
	}
	blank := bytesOf(append(slices.Clone(l), make([]byte, 2*kind)))
	return append(slices.Clone(l), sumOf(kind, blank))
}

// nameOf is a name's value.
func nameOf(e api.Eid) any {
	switch {
	case e.Scheme == 2:
		return []any{uint64(2), []any{e.Node, e.Service}}
	case e.Name == "":
		return []any{uint64(1), uint64(0)}
	}
	return []any{uint64(1), e.Name}
}

// bare is a block's value without its sum.
func bare(p api.Primary) []any {
	l := []any{uint64(7), p.Flags, uint64(p.Crc), nameOf(p.Dest), nameOf(p.Src), nameOf(p.Rep), []any{p.Stamp.Time, p.Stamp.Seq}, p.Life}
	if p.Flags%2 == 1 {
		l = append(l, p.Offset, p.Total)
	}
	return l
}

// valueOf is a block's value, with the sum that it ought to have.
func valueOf(p api.Primary) []any {
	return sealed(bare(p), p.Crc)
}

// with is a list with another value at a place.
func with(l []any, at int, v any) []any {
	l = slices.Clone(l)
	l[at] = v
	return l
}

// brief tells a value, and of what is long how it begins.
func brief(v any) string {
	return fmt.Sprintf("%.200s", fmt.Sprintf("%+v", v))
}

// may looks at what is told of a block that may be: Check, its bytes, and what is read of its value.
func may(t *testing.T, p api.Primary) {
	t.Helper()
	if e := primary.Check(p); e != api.OK {
		t.Errorf("Check(%s) = %d", brief(p), e)
	}
	want := bytesOf(valueOf(p))
	if row, e := primary.Put(p); e != api.OK || !bytes.Equal(row, want) {
		t.Errorf("Put(%s) = %x, %d, not %x", brief(p), row, e, want)
	}
	isBlock(t, valueOf(p), p)
}

// mayNot looks at what is told of a block that may not be.
func mayNot(t *testing.T, p api.Primary, want api.Errno) {
	t.Helper()
	if e := primary.Check(p); e != want {
		t.Errorf("Check(%s) = %d, not %d", brief(p), e, want)
	}
	if row, e := primary.Put(p); e != want || len(row) > 0 {
		t.Errorf("Put(%s) = %x, %d, not %d alone", brief(p), row, e, want)
	}
}

// isEither looks at all that is told of a block, whether it may be or not.
func isEither(t *testing.T, p api.Primary, want api.Errno) {
	t.Helper()
	if want == api.OK {
		may(t, p)
	} else {
		mayNot(t, p, want)
	}
}

// isBlock looks at what is read of a value that is that block's.
func isBlock(t *testing.T, v any, p api.Primary) {
	t.Helper()
	if got, e := primary.Get(v); got != p || e != api.OK {
		t.Errorf("Get(%s) = %s, %d, not %s", brief(v), brief(got), e, brief(p))
	}
}

// isNone looks at what is read of a value that is no block's.
func isNone(t *testing.T, v any, want api.Errno) {
	t.Helper()
	if got, e := primary.Get(v); got != (api.Primary{}) || e != want {
		t.Errorf("Get(%s) = %s, %d, not %d alone", brief(v), brief(got), e, want)
	}
}
