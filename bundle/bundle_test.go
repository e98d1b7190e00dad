package bundle_test

import (
	"bytes"
	"encoding/hex"
	"slices"
	"strings"
	"testing"

	"wagtail/api"
	"wagtail/bundle"
)

// ready is the Payload of RFC 9173's examples, and its bytes.
const (
	ready = "Ready to generate a 32-byte payload"
	laid  = "85010100005823526561647920746f2067656e657261746520612033322d62797465207061796c6f6164"
)

// P11.1, P11.2: bundles whose bytes are known from elsewhere: two of RFC 9173, and some whose sums were told by tables.
func TestKnownBundles(t *testing.T) {
	two := func(node, service uint64) api.Eid { return api.Eid{Scheme: 2, Node: node, Service: service} }
	p := api.Primary{Dest: two(1, 2), Src: two(2, 1), Rep: two(2, 1), Stamp: api.Stamp{Seq: 40}, Life: 1000000}
	age := api.Block{Type: 7, Number: 2, Data: "\x19\x01\x2c"}
	hops := api.Block{Type: 10, Number: 3, Flags: 16, Crc: 2, Data: "\x82\x18\x1e\x00"}
	load := api.Block{Type: 1, Number: 1, Data: ready}
	summed := p
	summed.Crc = 2
	sum := func(x api.Block, kind int) api.Block { x.Crc = kind; return x }
	for _, c := range []struct {
		digits string
		b      api.Bundle
	}{
		{"9f 88070000820282010282028202018202820201820018281a000f4240" + laid + "ff", api.Bundle{P: p, Payload: load}},
		{"9f 88070000820282010282028202018202820201820018281a000f4240 85070200004319012c" + laid + "ff", api.Bundle{P: p, Blocks: []api.Block{age}, Payload: load}},
		{"9f 89070002820282010282028202018202820201820018281a000f42404483fc981b 860a0310024482181e0044ae29bf8e 86070200014319012c421882 8601010002416844a503519a ff", api.Bundle{P: summed, Blocks: []api.Block{hops, sum(age, 1)}, Payload: api.Block{Type: 1, Number: 1, Crc: 2, Data: "h"}}},
		{"9f 890704018201008201008201008200000042b45e 86070200024319012c44dd9a9de0 8601010001416842e4a1 ff", api.Bundle{P: api.Primary{Flags: 4, Crc: 1, Dest: nobody, Src: nobody, Rep: nobody}, Blocks: []api.Block{sum(age, 2)}, Payload: api.Block{Type: 1, Number: 1, Crc: 1, Data: "h"}}},
	} {
		want, f := hex.DecodeString(strings.ReplaceAll(c.digits, " ", ""))
		if row, e := bundle.Put(c.b); f != nil || e != api.OK || !bytes.Equal(row, want) {
			t.Errorf("%s: %v, Put is %x, %d", c.digits, f, row, e)
		}
		isBundle(t, want, c.b)
		may(t, c.b)
	}
}

// P11.1, P11.5: bundles that may be, of no other block up to 16, with the bytes of their blocks, there and back again; no two have the same bytes.
func TestBundlesThatMayBe(t *testing.T) {
	seen := map[string]api.Bundle{}
	for _, b := range bundles() {
		may(t, b)
		row, _ := bundle.Put(b)
		if len(row) == 0 || row[0] != 159 || row[len(row)-1] != 255 {
			t.Errorf("%s: %x", brief(b), row)
		}
		if other, ok := seen[string(row)]; ok && !alike(other, b) {
			t.Errorf("%s has the bytes of %s", brief(b), brief(other))
		}
		seen[string(row)] = b
	}
}

// P11.1: more than 16 other blocks, right ones and wrong ones, up to many.
func TestTooManyBlocks(t *testing.T) {
	for _, p := range fronts() {
		for _, n := range []int{17, 18, 32, 272} {
			mayNot(t, with(p, n), api.ErrBig)
			b := with(p, n)
			b.Blocks = slices.Repeat([]api.Block{{Type: 6, Number: 2}}, n)
			mayNot(t, b, api.ErrBig)
			clear(b.Blocks)
			mayNot(t, b, api.ErrBig)
		}
	}
	mayNot(t, api.Bundle{Blocks: make([]api.Block, 1<<20)}, api.ErrBig)
}

// fault is what is wrong with a bundle: where, how far the bundle comes with it, and the error.
type fault struct {
	where string
	step  int
	e     api.Errno
	make  func(b *api.Bundle)
}

// How far a bundle comes ahead of what is wrong, in the order in which errors are told; behind ofOther each other block has a step of its own.
const (
	ofCount = iota
	ofFront
	ofPlacing
	ofPayload
	ofOther
	ofForm = ofOther + 100
)

// frontFaults are what can be wrong with a first block.
func frontFaults() []fault {
	l := []fault{
		{"dest", ofFront, api.ErrArg, func(b *api.Bundle) { b.P.Dest = api.Eid{} }},
		{"src", ofFront, api.ErrArg, func(b *api.Bundle) { b.P.Src = api.Eid{Scheme: 1, Name: "//"} }},
		{"rep", ofFront, api.ErrArg, func(b *api.Bundle) { b.P.Rep = api.Eid{Scheme: 2, Name: "//a"} }},
		{"flags", ofFront, api.ErrArg, func(b *api.Bundle) { b.P.Flags |= 1 << 21 }},
		{"flags", ofPlacing, api.ErrForm, func(b *api.Bundle) { b.P.Flags |= 5 }},
		{"offset", ofPlacing, api.ErrForm, func(b *api.Bundle) { b.P.Offset = greatest }},
		{"src", ofPlacing, api.ErrForm, func(b *api.Bundle) { b.P.Src, b.P.Flags = nobody, b.P.Flags&^4|1<<14 }},
	}
	for _, kind := range otherKinds() {
		l = append(l, fault{"sum", ofFront, api.ErrArg, func(b *api.Bundle) { b.P.Crc = kind }})
	}
	return l
}

// blockFaults are what can be wrong with a block by itself.
func blockFaults(where string, step int, x func(b *api.Bundle) *api.Block) []fault {
	l := []fault{{where + "'s data", step, api.ErrBig, func(b *api.Bundle) { x(b).Data = long() }}}
	for _, f := range []func(x *api.Block){func(x *api.Block) { x.Number = 0 }, func(x *api.Block) { x.Number, x.Data = 0, long() }} {
		l = append(l, fault{where, step, api.ErrArg, func(b *api.Bundle) { f(x(b)) }})
	}
	for _, kind := range otherKinds() {
		l = append(l, fault{where, step, api.ErrArg, func(b *api.Bundle) { x(b).Crc, x(b).Data = kind, long() }}, fault{where, step, api.ErrArg, func(b *api.Bundle) { x(b).Crc = kind }})
	}
	return l
}

// together are what can be wrong with blocks that may be each by itself.
func together(n int) []fault {
	var l []fault
	for _, kind := range numbers() {
		if kind != 1 {
			l = append(l, fault{"payload's type", ofForm, api.ErrForm, func(b *api.Bundle) { b.Payload.Type = kind }})
		}
		if kind > 1 {
			l = append(l, fault{"payload", ofForm, api.ErrForm, func(b *api.Bundle) { b.Payload.Number = kind }})
		}
	}
	for i := range n {
		where := "other " + string(rune('a'+i))
		l = append(l, fault{where + "'s type", ofForm, api.ErrForm, func(b *api.Bundle) { b.Blocks[i].Type = 1 }}, fault{where, ofForm, api.ErrForm, func(b *api.Bundle) { b.Blocks[i].Number = 1 }})
		for j := range n {
			if i != j {
				l = append(l, fault{where, ofForm, api.ErrForm, func(b *api.Bundle) { b.Blocks[i].Number = b.Blocks[j].Number }})
			}
		}
	}
	return l
}

// faults are what can be wrong with a bundle of so many other blocks, the Data that are too long behind all else of one block.
func faults(n int) []fault {
	l := append(frontFaults(), blockFaults("payload", ofPayload, func(b *api.Bundle) *api.Block { return &b.Payload })...)
	for i := range n {
		l = append(l, blockFaults("other "+string(rune('a'+i)), ofOther+i, func(b *api.Bundle) *api.Block { return &b.Blocks[i] })...)
	}
	l = append(l, together(n)...)
	return append(l,
		fault{"count", ofCount, api.ErrBig, func(b *api.Bundle) { b.Blocks = append(slices.Clone(b.Blocks), others(30)[n:17]...) }},
		fault{"count", ofCount, api.ErrBig, func(b *api.Bundle) { b.Blocks = append(slices.Clone(b.Blocks), make([]api.Block, 17-n)...) }})
}

// P11.1: each thing that may not be, alone: of the first block, of the Payload and of another block at each place, of blocks together.
func TestEachFault(t *testing.T) {
	for _, n := range []int{0, 1, 2, 3, 16} {
		for _, p := range fronts() {
			for _, f := range faults(n) {
				b := with(p, n)
				f.make(&b)
				mayNot(t, b, f.e)
			}
		}
	}
	mayNot(t, api.Bundle{}, api.ErrArg)
	mayNot(t, api.Bundle{P: fronts()[0]}, api.ErrArg)
}

// P11.1: of two things that may not be the one that is named first is told, whichever came first.
func TestFaultsTogether(t *testing.T) {
	for _, n := range []int{0, 1, 3} {
		l := faults(n)
		for _, p := range []api.Primary{fronts()[0], fronts()[5]} {
			for i, f := range l {
				for _, g := range l[:i] {
					if f.where == g.where || f.step == g.step && f.e != g.e {
						continue
					}
					first := f
					if g.step < f.step {
						first = g
					}
					b, c := with(p, n), with(p, n)
					f.make(&b)
					g.make(&b)
					mayNot(t, b, first.e)
					g.make(&c)
					f.make(&c)
					mayNot(t, c, first.e)
				}
			}
		}
	}
}

// P11.1: all that may not be at once, from each step on.
func TestAllFaultsFromAStepOn(t *testing.T) {
	const n = 16
	l := slices.DeleteFunc(faults(n), func(f fault) bool { return strings.HasSuffix(f.where, "'s data") })
	slices.SortStableFunc(l, func(f, g fault) int { return g.step - f.step })
	b := with(fronts()[0], n)
	for _, f := range l {
		f.make(&b)
		mayNot(t, b, f.e)
	}
}

// P11.1: Data as long as they may be, of the Payload and of another block at each place; Put lays them, too long to be read.
func TestLongData(t *testing.T) {
	most := long()[1:]
	for kind := range 3 {
		for _, n := range []int{0, 1, 3, 16} {
			b := with(fronts()[kind], n)
			b.Payload.Data, b.Payload.Crc = most, kind
			may(t, b)
			for i := range n {
				c := with(fronts()[kind], n)
				c.Blocks[i].Data, c.Blocks[i].Crc = most, kind
				may(t, c)
				c.Blocks[i].Data += "x"
				mayNot(t, c, api.ErrBig)
				c.Payload.Number = 2
				mayNot(t, c, api.ErrBig)
			}
		}
	}
}

// P11.1: a Payload of each Type and Number, and another block of each, at each place.
func TestTypesAndNumbers(t *testing.T) {
	isEither := func(b api.Bundle, ok bool, number uint64) {
		t.Helper()
		switch {
		case number == 0:
			mayNot(t, b, api.ErrArg)
		case !ok:
			mayNot(t, b, api.ErrForm)
		default:
			may(t, b)
		}
	}
	for _, kind := range numbers() {
		for _, number := range numbers() {
			for _, n := range []int{0, 1, 3} {
				b := with(fronts()[1], n)
				b.Payload.Type, b.Payload.Number = kind, number
				isEither(b, kind == 1 && number == 1, number)
				for i := range n {
					b := with(fronts()[1], n)
					b.Blocks[i].Type, b.Blocks[i].Number = kind, number
					same := 0
					for _, x := range b.Blocks {
						if x.Number == number {
							same++
						}
					}
					isEither(b, kind != 1 && number > 1 && same == 1, number)
				}
			}
		}
	}
}

// P11.1: other blocks of one Number, next to one another and further away, and all of one.
func TestSameNumbers(t *testing.T) {
	for _, number := range []uint64{2, 3, 255, greatest} {
		for i := range 16 {
			for j := range i {
				b := with(fronts()[2], 16)
				for at := range b.Blocks {
					b.Blocks[at].Number = uint64(at) + 4
				}
				b.Blocks[i].Number = number
				may(t, b)
				b.Blocks[j].Number = number
				mayNot(t, b, api.ErrForm)
			}
		}
		b := with(fronts()[2], 16)
		for at := range b.Blocks {
			b.Blocks[at].Number = number
		}
		mayNot(t, b, api.ErrForm)
	}
}
