package bundle_test

import (
	"bytes"
	"encoding/binary"
	"fmt"
	"hash/crc32"
	"math"
	"math/bits"
	"slices"
	"strings"
	"testing"

	"wagtail/api"
	"wagtail/bundle"
)

// greatest is the greatest number that there is.
const greatest = math.MaxUint64

// me and nobody are names: somebody's, and nobody's.
var (
	me     = api.Eid{Scheme: 2, Node: 3, Service: 4}
	nobody = api.Eid{Scheme: 1}
)

// numbers are 0, the greatest one, those at each end of a width, and some within.
func numbers() []uint64 {
	return []uint64{0, 1, 2, 3, 23, 24, 255, 256, 65535, 65536, 1<<32 - 1, 1 << 32, 1<<63 - 1, 1 << 63, greatest - 1, greatest}
}

// otherKinds are kinds of which there are no sums.
func otherKinds() []int {
	return []int{-1, 3, 4, 256, 257, 1<<32 + 1, math.MinInt, math.MaxInt}
}

// long is Data of a byte more than there may be.
func long() string {
	return strings.Repeat("x", api.MaxText+1)
}

// fronts are first blocks that may be: whole bundles' and fragments', somebody's and nobody's, of each kind of sum.
func fronts() []api.Primary {
	var l []api.Primary
	for kind := range 3 {
		l = append(l,
			api.Primary{Crc: kind, Dest: me, Src: me, Rep: me},
			api.Primary{Flags: 1, Crc: kind, Dest: me, Src: api.Eid{Scheme: 2, Node: 1}, Rep: nobody, Offset: 5, Total: 9},
			api.Primary{Flags: 4, Crc: kind, Dest: me, Src: nobody, Rep: nobody, Stamp: api.Stamp{Time: 5, Seq: 1}, Life: 1000},
			api.Primary{Flags: 1<<21 - 1 - 4, Crc: kind, Dest: api.Eid{Scheme: 1, Name: "//a"}, Src: api.Eid{Scheme: 1, Name: "//b/c"}, Rep: me, Stamp: api.Stamp{Time: greatest, Seq: 256}, Life: greatest, Offset: greatest - 1, Total: greatest})
	}
	return l
}

// others are so many other blocks that may be together: of each kind of sum, of Types that are there again, their Numbers in no order, 2 and the greatest among them, but not 3.
func others(n int) []api.Block {
	var l []api.Block
	for i := range n {
		x := api.Block{Type: []uint64{6, 7, 0, 6, 2, greatest, 192}[i%7], Number: uint64(40 - i), Flags: uint64(i * i), Crc: i % 3, Data: strings.Repeat("d\x00\xff", i%9)}
		if i < 4 {
			x.Number = []uint64{4, 2, greatest, 1 << 32}[i]
		}
		l = append(l, x)
	}
	return l
}

// with is a bundle with that first block and so many others.
func with(p api.Primary, n int) api.Bundle {
	return api.Bundle{P: p, Blocks: others(n), Payload: api.Block{Type: 1, Number: 1, Flags: uint64(n), Crc: n % 3, Data: "data"[:n%5]}}
}

// bundles are some that may be: with each first block, and from none to as many other blocks as there may be.
func bundles() []api.Bundle {
	var l []api.Bundle
	for i, p := range fronts() {
		for _, n := range []int{0, 1, 2, 3, 4 + i, 15, 16} {
			l = append(l, with(p, n))
		}
	}
	return l
}

// little are bundles whose every byte can be another one, all blocks of which have a sum, or none.
func little() []api.Bundle {
	var l []api.Bundle
	for kind := range 3 {
		for i, p := range fronts()[4*kind : 4*kind+4] {
			b := with(p, i)
			for at := range b.Blocks {
				b.Blocks[at].Crc = kind
			}
			b.Payload.Crc = kind
			l = append(l, b)
		}
	}
	return l
}

// clone is a bundle in memory of its own.
func clone(b api.Bundle) api.Bundle {
	b.Blocks = slices.Clone(b.Blocks)
	return b
}

// headOf lays a head by a way of its own: as many bytes behind the first one as the number has, made up to 1, 2, 4 or 8.
func headOf(major byte, n uint64) []byte {
	if n < 24 {
		return []byte{major<<5 + byte(n)}
	}
	wide := binary.BigEndian.AppendUint64(nil, n)
	power := bits.Len(uint(bits.Len64(n)-1) / 8)
	return append([]byte{major<<5 + 24 + byte(power)}, wide[8-1<<power:]...)
}

// bytesOf lays a value, by a way of its own, of those types that the tests here lay.
func bytesOf(v any) []byte {
	switch w := v.(type) {
	case uint64:
		return headOf(0, w)
	case api.Minus:
		return headOf(1, uint64(w))
	case []byte:
		return append(headOf(2, uint64(len(w))), w...)
	case string:
		return append(headOf(3, uint64(len(w))), w...)
	case []any:
		row := headOf(4, uint64(len(w)))
		for _, x := range w {
			row = append(row, bytesOf(x)...)
		}
		return row
	}
	return []byte{0xf6}
}

// short tells a short sum as a remainder: of the bytes' bits, each byte's lowest first, the first sixteen turned, divided by x^16 + x^12 + x^5 + 1.
func short(b []byte) []byte {
	rest := uint32(0xffff)
	for _, x := range b {
		rest ^= uint32(bits.Reverse8(x)) << 8
		for range 8 {
			rest <<= 1
			if rest>>16 == 1 {
				rest ^= 0x11021
			}
		}
	}
	return binary.BigEndian.AppendUint16(nil, ^bits.Reverse16(uint16(rest)))
}

// sealed lays a list with its sum behind it, if kind is 1 or 2, by the library's way, or a way of its own.
func sealed(l []any, kind int) []byte {
	if kind != 1 && kind != 2 {
		return bytesOf(l)
	}
	row := bytesOf(append(slices.Clone(l), make([]byte, 2*kind)))
	sum := short(row)
	if kind == 2 {
		sum = binary.BigEndian.AppendUint32(nil, crc32.Checksum(row, crc32.MakeTable(crc32.Castagnoli)))
	}
	return append(row[:len(row)-len(sum)], sum...)
}

// nameOf is a name's value.
func nameOf(e api.Eid) any {
	switch {
	case e.Scheme == 2:
		return []any{uint64(2), []any{e.Node, e.Service}}
	case e.Name == "":
		return []any{uint64(1), uint64(0)}
	}
	return []any{uint64(1), e.Name}
}

// frontList is what stands in a first block's list, without its sum.
func frontList(p api.Primary) []any {
	l := []any{uint64(7), p.Flags, uint64(p.Crc), nameOf(p.Dest), nameOf(p.Src), nameOf(p.Rep), []any{p.Stamp.Time, p.Stamp.Seq}, p.Life}
	if p.Flags%2 == 1 {
		l = append(l, p.Offset, p.Total)
	}
	return l
}

// blockList is what stands in another block's list, without its sum.
func blockList(x api.Block) []any {
	return []any{x.Type, x.Number, x.Flags, uint64(x.Crc), []byte(x.Data)}
}

// laidFront and laidBlock are the bytes of blocks.
func laidFront(p api.Primary) []byte { return sealed(frontList(p), p.Crc) }
func laidBlock(x api.Block) []byte   { return sealed(blockList(x), x.Crc) }

// pieces are what a bundle's bytes are made of: what opens them, each block's, what breaks them.
func pieces(b api.Bundle) [][]byte {
	l := [][]byte{{159}, laidFront(b.P)}
	for _, x := range b.Blocks {
		l = append(l, laidBlock(x))
	}
	return append(l, laidBlock(b.Payload), []byte{255})
}

// bytesOfBundle are a bundle's bytes.
func bytesOfBundle(b api.Bundle) []byte {
	return slices.Concat(pieces(b)...)
}

// put is a list with others at a place, instead of so many there.
func put[T any](l []T, at, gone int, more ...T) []T {
	return slices.Replace(slices.Clone(l), at, at+gone, more...)
}

// torn is a row whose last byte, of a sum, is another one.
func torn(row []byte) []byte {
	row = slices.Clone(row)
	row[len(row)-1] ^= 64
	return row
}

// brief tells a value, and of what is long how it begins.
func brief(v any) string {
	return fmt.Sprintf("%.300s", fmt.Sprintf("%+v", v))
}

// alike tells whether two bundles are the same.
func alike(a, b api.Bundle) bool {
	return a.P == b.P && a.Payload == b.Payload && slices.Equal(a.Blocks, b.Blocks)
}

// may looks at what is told of a bundle that may be: Check, its bytes, and what is read of them.
func may(t *testing.T, b api.Bundle) {
	t.Helper()
	if e := bundle.Check(b); e != api.OK {
		t.Errorf("Check(%s) = %d", brief(b), e)
	}
	want := bytesOfBundle(b)
	if row, e := bundle.Put(b); e != api.OK || !bytes.Equal(row, want) {
		t.Errorf("Put(%s) = %.100x, %d, not %.100x", brief(b), row, e, want)
	}
	if len(want) > api.MaxText {
		isNone(t, want, api.ErrBig)
	} else {
		isBundle(t, want, b)
	}
}

// mayNot looks at what is told of a bundle that may not be.
func mayNot(t *testing.T, b api.Bundle, want api.Errno) {
	t.Helper()
	if e := bundle.Check(b); e != want {
		t.Errorf("Check(%s) = %d, not %d", brief(b), e, want)
	}
	if row, e := bundle.Put(b); e != want || len(row) > 0 {
		t.Errorf("Put(%s) = %.100x, %d, not %d alone", brief(b), row, e, want)
	}
}

// isBundle looks at what is read of bytes that are that bundle's.
func isBundle(t *testing.T, row []byte, b api.Bundle) {
	t.Helper()
	if got, e := bundle.Get(row); e != api.OK || !alike(got, b) {
		t.Errorf("Get(%.100x) = %s, %d, not %s", row, brief(got), e, brief(b))
	}
}

// isNone looks at what is read of bytes that are no bundle's.
func isNone(t *testing.T, row []byte, want api.Errno) {
	t.Helper()
	if got, e := bundle.Get(row); e != want || !alike(got, api.Bundle{}) {
		t.Errorf("Get(%.100x), of %d, = %s, %d, not %d alone", row, len(row), brief(got), e, want)
	}
}
