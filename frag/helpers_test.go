package frag_test

import (
	"fmt"
	"math"
	"math/big"
	"slices"
	"testing"

	"wagtail/api"
	"wagtail/bundle"
	"wagtail/frag"
)

// greatest is the greatest number that there is.
const greatest = math.MaxUint64

// me and nobody are names: somebody's, and nobody's.
var (
	me     = api.Eid{Scheme: 2, Node: 3, Service: 4}
	nobody = api.Eid{Scheme: 1}
)

// data are so many bytes, no text, those next to one another unlike.
func data(n int) string {
	row := make([]byte, n)
	for i := range row {
		row[i] = byte(i*7 + i/256*3)
	}
	return string(row)
}

// fronts are first blocks of whole bundles that may be, and may be split: of each kind of sum, of somebody's.
func fronts() []api.Primary {
	var l []api.Primary
	for kind := range 3 {
		l = append(l,
			api.Primary{Crc: kind, Dest: me, Src: me, Rep: me},
			api.Primary{Flags: 1<<21 - 1 - 5, Crc: kind, Dest: api.Eid{Scheme: 1, Name: "//a"}, Src: api.Eid{Scheme: 1, Name: "//b/c"}, Rep: nobody, Stamp: api.Stamp{Time: greatest, Seq: 256}, Life: greatest})
	}
	return l
}

// piece is a first block of a fragment.
func piece(p api.Primary, offset, total uint64) api.Primary {
	p.Flags, p.Offset, p.Total = p.Flags|1, offset, total
	return p
}

// others are so many other blocks that may be together, of each kind of sum.
func others(n int) []api.Block {
	var l []api.Block
	for i := range n {
		l = append(l, api.Block{Type: uint64(i%4 + 6), Number: uint64(40 - i), Flags: uint64(i * i), Crc: i % 3, Data: data(i % 5)})
	}
	return l
}

// with is a bundle with that first block, so many others, and so many bytes.
func with(p api.Primary, n, size int) api.Bundle {
	return api.Bundle{P: p, Blocks: others(n), Payload: api.Block{Type: 1, Number: 1, Flags: uint64(5 * n), Crc: (n + 1) % 3, Data: data(size)}}
}

// wholes are bundles that are no fragments, with so many bytes: with each first block, and from none to as many other blocks as there may be.
func wholes(size int) []api.Bundle {
	var l []api.Bundle
	for _, p := range fronts() {
		for _, n := range []int{0, 1, 2, 16} {
			l = append(l, with(p, n, size))
		}
	}
	return l
}

// wrong is what may not be with a bundle, and what bundle.Check tells of it.
type wrong struct {
	e    api.Errno
	make func(b *api.Bundle)
}

// wrongs are bundles that may not be, of each error, made of one that may.
func wrongs() []wrong {
	long := data(api.MaxText + 1)
	blocks := func(e api.Errno, l ...api.Block) wrong { return wrong{e, func(b *api.Bundle) { b.Blocks = l }} }
	return []wrong{
		blocks(api.ErrBig, others(17)...),
		{api.ErrArg, func(b *api.Bundle) { b.P.Crc = 3 }},
		{api.ErrArg, func(b *api.Bundle) { b.P.Dest = api.Eid{} }},
		{api.ErrArg, func(b *api.Bundle) { b.P.Flags |= 1 << 21 }},
		{api.ErrForm, func(b *api.Bundle) { b.P.Flags |= 5 }},
		{api.ErrForm, func(b *api.Bundle) { b.P.Offset, b.P.Total = greatest, greatest }},
		{api.ErrForm, func(b *api.Bundle) { b.P.Src, b.P.Flags = nobody, b.P.Flags&^4|1<<14 }},
		{api.ErrArg, func(b *api.Bundle) { b.Payload.Crc = -1 }},
		{api.ErrArg, func(b *api.Bundle) { b.Payload.Number = 0 }},
		{api.ErrBig, func(b *api.Bundle) { b.Payload.Data = long }},
		{api.ErrForm, func(b *api.Bundle) { b.Payload.Type = 6 }},
		{api.ErrForm, func(b *api.Bundle) { b.Payload.Number = 2 }},
		blocks(api.ErrArg, api.Block{Type: 6, Number: 2, Crc: math.MaxInt}),
		blocks(api.ErrBig, api.Block{Type: 6, Number: 2, Data: long}),
		blocks(api.ErrForm, api.Block{Type: 1, Number: 2}),
		blocks(api.ErrForm, api.Block{Type: 6, Number: 2}, api.Block{Type: 7, Number: 2}),
		{api.ErrArg, func(b *api.Bundle) { *b = api.Bundle{} }},
	}
}

// clone is a bundle in memory of its own.
func clone(b api.Bundle) api.Bundle {
	b.Blocks = slices.Clone(b.Blocks)
	return b
}

// clones are bundles in memory of their own.
func clones(l []api.Bundle) []api.Bundle {
	l = slices.Clone(l)
	for i := range l {
		l[i] = clone(l[i])
	}
	return l
}

// alike tells whether two bundles are the same.
func alike(a, b api.Bundle) bool {
	return a.P == b.P && a.Payload == b.Payload && slices.Equal(a.Blocks, b.Blocks)
}

// brief tells a value, and of what is long how it begins.
func brief(v any) string {
	return fmt.Sprintf("%.300s", fmt.Sprintf("%+v", v))
}

// manyOf is how many pieces there are, by numbers without an end.
func manyOf(n, size int) int {
	if n < 0 || size < 1 {
		return 0
	}
	parts, rest := new(big.Int).QuoRem(big.NewInt(int64(n)), big.NewInt(int64(size)), new(big.Int))
	if rest.Sign() > 0 || n == 0 {
		parts.Add(parts, big.NewInt(1))
	}
	return int(parts.Int64())
}

// piecesOf are the fragments of a bundle, byte by byte: each byte in the last one, as long as it isn't full.
func piecesOf(b api.Bundle, size int) []api.Bundle {
	total := b.P.Total
	if b.P.Flags%2 == 0 {
		total = uint64(len(b.Payload.Data))
	}
	var l []api.Bundle
	from := 0
	for i := range len(b.Payload.Data) {
		if len(l) == 0 || i-from == size {
			x := b
			x.P = piece(b.P, b.P.Offset+uint64(i), total)
			x.Blocks = nil
			l, from = append(l, x), i
		}
		l[len(l)-1].Payload.Data = b.Payload.Data[from : i+1]
	}
	l[0].Blocks = b.Blocks
	return l
}

// splits looks at what a bundle is cut into; and each piece may be.
func splits(t *testing.T, b api.Bundle, size int, want []api.Bundle) {
	t.Helper()
	got, e := frag.Split(b, size)
	if e != api.OK || !slices.EqualFunc(got, want, alike) || len(got) != frag.Many(len(b.Payload.Data), size) {
		t.Errorf("Split(%s, %d) = %s, %d, not %s", brief(b), size, brief(got), e, brief(want))
	}
	for _, x := range got {
		if e := bundle.Check(x); e != api.OK {
			t.Errorf("Split(%s, %d): %s may not be: %d", brief(b), size, brief(x), e)
		}
	}
}

// splitsNot looks at what is told of a bundle that can't be cut.
func splitsNot(t *testing.T, b api.Bundle, size int, want api.Errno) {
	t.Helper()
	if got, e := frag.Split(b, size); e != want || len(got) > 0 {
		t.Errorf("Split(%s, %d) = %s, %d, not %d alone", brief(b), size, brief(got), e, want)
	}
}

// joins looks at what fragments are together.
func joins(t *testing.T, l []api.Bundle, want api.Bundle) {
	t.Helper()
	got, e := frag.Join(l...)
	if e != api.OK || !alike(got, want) {
		t.Errorf("Join(%s) = %s, %d, not %s", brief(l), brief(got), e, brief(want))
	}
	if e := bundle.Check(got); e != api.OK {
		t.Errorf("Join(%s): %s may not be: %d", brief(l), brief(got), e)
	}
}

// joinsNot looks at what is told of fragments that can't be put together.
func joinsNot(t *testing.T, l []api.Bundle, want api.Errno) {
	t.Helper()
	if got, e := frag.Join(l...); e != want || !alike(got, api.Bundle{}) {
		t.Errorf("Join(%s) = %s, %d, not %d alone", brief(l), brief(got), e, want)
	}
}

// orders are all orders of a list of up to five, and of a longer one some: as it is, turned, from each place on, and with steps.
func orders(l []api.Bundle) [][]api.Bundle {
	if len(l) <= 5 {
		return permutations(l)
	}
	back := slices.Clone(l)
	slices.Reverse(back)
	all := [][]api.Bundle{l, back}
	for from := 1; from < len(l); from += len(l)/7 + 1 {
		all = append(all, slices.Concat(l[from:], l[:from]), slices.Concat(back[from:], back[:from]))
	}
	for _, step := range []int{2, 3, 5, 7, 31} {
		var order []api.Bundle
		for from := range step {
			for at := from; at < len(l); at += step {
				order = append(order, l[at])
			}
		}
		all = append(all, order)
	}
	return all
}

// permutations are all orders of a list.
func permutations(l []api.Bundle) [][]api.Bundle {
	if len(l) == 0 {
		return [][]api.Bundle{nil}
	}
	var all [][]api.Bundle
	for _, order := range permutations(l[1:]) {
		for at := range l {
			all = append(all, slices.Insert(slices.Clone(order), at, l[0]))
		}
	}
	return all
}
