package bundle_test

import (
	"bytes"
	"slices"
	"strings"
	"testing"

	"wagtail/api"
	"wagtail/block"
	"wagtail/bundle"
	"wagtail/item"
	"wagtail/primary"
)

// wrong is what stands in a block's place, and the error that it has.
type wrong struct {
	row []byte
	e   api.Errno
}

// noValues are rows that are no value, whatever follows.
func noValues() []wrong {
	huge := bytes.Repeat([]byte{255}, 8)
	return []wrong{
		{[]byte{255}, api.ErrForm}, {[]byte{159}, api.ErrForm}, {[]byte{28}, api.ErrForm}, {[]byte{95, 65, 1, 255}, api.ErrForm}, {[]byte{24, 23}, api.ErrForm}, {[]byte{25, 0, 255}, api.ErrForm}, {[]byte{97, 255}, api.ErrForm}, {[]byte{130, 1, 255}, api.ErrForm}, {[]byte{152, 5, 1, 1, 0, 0, 64}, api.ErrForm},
		{[]byte{160}, api.ErrType}, {[]byte{192, 1}, api.ErrType}, {[]byte{224}, api.ErrType}, {[]byte{247}, api.ErrType}, {[]byte{249, 60, 0}, api.ErrType}, {[]byte{129, 161, 1, 1}, api.ErrType},
		{slices.Concat([]byte{91}, huge), api.ErrShort}, {slices.Concat([]byte{123}, huge), api.ErrShort}, {[]byte{90, 0, 1, 0, 0}, api.ErrShort}, {[]byte{133, 1, 1, 0, 0, 90, 0, 1, 0, 0}, api.ErrShort},
		{append(bytes.Repeat([]byte{129}, 17), 0), api.ErrBig}, {append([]byte{153, 16, 0}, make([]byte, 4096)...), api.ErrBig}, {append([]byte{153, 255, 255}, make([]byte, 4100)...), api.ErrBig},
	}
}

// changed is a list with another value at a place.
func changed(l []any, at int, v any) []any {
	l = slices.Clone(l)
	l[at] = v
	return l
}

// noFronts are rows of values that are no first block of that kind of sum.
func noFronts(p api.Primary) []wrong {
	l := frontList(p)
	rows := []wrong{
		{[]byte{5}, api.ErrType}, {[]byte{67, 1, 2, 3}, api.ErrType}, {[]byte{97, 104}, api.ErrType}, {[]byte{246}, api.ErrType}, {[]byte{128}, api.ErrType}, {bytesOf([]any{l}), api.ErrType},
		{laidBlock(api.Block{Type: 1, Number: 1, Crc: p.Crc}), api.ErrType}, {laidBlock(api.Block{Type: 7, Number: 2, Crc: p.Crc, Data: "data"}), api.ErrType},
		{sealed(changed(l, 0, uint64(6)), p.Crc), api.ErrType}, {sealed(changed(l, 2, uint64(3)), p.Crc), api.ErrType}, {sealed(changed(l, 6, uint64(5)), p.Crc), api.ErrType}, {sealed(l[:len(l)-1], p.Crc), api.ErrType}, {sealed(append(slices.Clone(l), uint64(0)), p.Crc), api.ErrType},
		{sealed(changed(l, 3, []any{uint64(1), "none"}), p.Crc), api.ErrForm}, {sealed(changed(l, 4, []any{uint64(1), uint64(1)}), p.Crc), api.ErrForm}, {sealed(changed(l, 5, []any{uint64(3), uint64(0)}), p.Crc), api.ErrType},
		{sealed(changed(l, 1, p.Flags|1<<21), p.Crc), api.ErrArg},
	}
	if p.Flags&1 == 1 {
		rows = append(rows, wrong{sealed(changed(l, 1, p.Flags|4), p.Crc), api.ErrForm}, wrong{sealed(changed(l, 8, p.Total), p.Crc), api.ErrForm})
	}
	if p.Crc > 0 {
		rows = append(rows, wrong{torn(laidFront(p)), api.ErrSum}, wrong{torn(sealed(changed(l, 1, p.Flags|1<<21), p.Crc)), api.ErrSum}, wrong{sealed(l, 3-p.Crc), api.ErrSum}, wrong{bytesOf(l), api.ErrType})
	}
	return rows
}

// noBlocks are rows of values that are none of another block, of that Type and kind of sum.
func noBlocks(kind uint64, sum int) []wrong {
	l := blockList(api.Block{Type: kind, Number: 77, Flags: 1, Crc: sum, Data: "abc"})
	rows := []wrong{
		{[]byte{1}, api.ErrType}, {[]byte{67, 1, 2, 3}, api.ErrType}, {[]byte{97, 104}, api.ErrType}, {[]byte{246}, api.ErrType}, {[]byte{128}, api.ErrType}, {bytesOf([]any{l}), api.ErrType}, {laidFront(fronts()[0]), api.ErrType}, {laidFront(fronts()[4]), api.ErrType},
		{sealed(changed(l, 0, "1"), sum), api.ErrType}, {sealed(changed(l, 1, api.Minus(1)), sum), api.ErrType}, {sealed(changed(l, 3, uint64(3)), sum), api.ErrType}, {sealed(changed(l, 4, "abc"), sum), api.ErrType}, {sealed(l[:4], sum), api.ErrType}, {sealed(append(slices.Clone(l), uint64(0)), sum), api.ErrType},
		{sealed(changed(l, 1, uint64(0)), sum), api.ErrArg},
	}
	if sum > 0 {
		rows = append(rows, wrong{torn(sealed(l, sum)), api.ErrSum}, wrong{torn(sealed(changed(l, 1, uint64(0)), sum)), api.ErrSum}, wrong{sealed(l, 3-sum), api.ErrSum}, wrong{bytesOf(l), api.ErrType})
	}
	return rows
}

// wrongs are rows that may not stand at a place of a bundle's pieces: the first block's, another one's, the Payload's.
func wrongs(b api.Bundle, at int) []wrong {
	if at == 1 {
		return append(noValues(), noFronts(b.P)...)
	}
	rows := noValues()
	for sum := range 3 {
		rows = slices.Concat(rows, noBlocks(1, sum), noBlocks(7, sum))
	}
	return rows
}

// P11.2: a value that is none, a first block, another block and a Payload that are wrong in each way, at each place, and behind them nothing, or more that is wrong.
func TestWrongAtEachPlace(t *testing.T) {
	l := little()
	for i, front := range fronts() {
		l = append(l, with(front, i%3))
	}
	for _, b := range append(l, with(fronts()[0], 16), with(fronts()[5], 16)) {
		p := pieces(b)
		for at := 1; at < len(p)-1; at++ {
			isNone(t, slices.Concat(p[:at]...), api.ErrShort)
			for _, w := range wrongs(b, at) {
				isNone(t, slices.Concat(put(p, at, 1, w.row)...), w.e)
				isNone(t, slices.Concat(put(p, at, 0, w.row)...), w.e)
				isNone(t, slices.Concat(put(p, at, len(p)-at, w.row, p[at])...), w.e)
			}
		}
	}
}

// P11.2: of two values that are wrong the first one's error is told, whatever the other one's is.
func TestSeveralWrongAtOnce(t *testing.T) {
	for _, b := range little() {
		p := pieces(b)
		for at := 1; at < len(p)-1; at++ {
			for behind := at + 1; behind < len(p)-1; behind++ {
				for i, w := range wrongs(b, at) {
					l := wrongs(b, behind)
					other := l[i*7%len(l)].row
					isNone(t, slices.Concat(put(put(p, behind, 1, other), at, 1, w.row)...), w.e)
					isNone(t, slices.Concat(put(put(p, behind, len(p)-behind, other), at, 1, w.row)...), w.e)
				}
			}
		}
	}
}

// P11.2: bytes that do not begin with head.Open: none, and with each other one in its place, or ahead.
func TestOtherBeginnings(t *testing.T) {
	isNone(t, nil, api.ErrForm)
	isNone(t, []byte{}, api.ErrForm)
	for _, b := range little() {
		row := bytesOfBundle(b)
		isNone(t, row[1:], api.ErrForm)
		for n := range 256 {
			if n == 159 {
				continue
			}
			isNone(t, []byte{byte(n)}, api.ErrForm)
			isNone(t, put(row, 0, 1, byte(n)), api.ErrForm)
			isNone(t, put(row, 0, 0, byte(n)), api.ErrForm)
		}
		isNone(t, put(row, 0, 0, 159), api.ErrForm)
		p := pieces(b)
		p[0] = headOf(4, uint64(len(p)-2))
		isNone(t, slices.Concat(p...), api.ErrForm)
		isNone(t, slices.Concat(p[:len(p)-1]...), api.ErrForm)
	}
}

// P11.2: bytes that end at each place.
func TestBytesThatEnd(t *testing.T) {
	for _, b := range bundles() {
		row := bytesOfBundle(b)
		for n := 1; n < len(row)-1; n++ {
			isNone(t, row[:n], api.ErrShort)
		}
		isNone(t, row[:len(row)-1], api.ErrForm)
	}
	isNone(t, []byte{159}, api.ErrShort)
	isNone(t, []byte{159, 255}, api.ErrForm)
}

// P11.2: of what stands behind the Payload nothing counts but that it is just head.Break.
func TestBehindThePayload(t *testing.T) {
	for _, b := range append(little(), with(fronts()[1], 16)) {
		p := pieces(b)
		end := len(p) - 1
		for n := range 256 {
			if n != 255 {
				isNone(t, slices.Concat(put(p, end, 1, []byte{byte(n)})...), api.ErrForm)
			}
			isNone(t, slices.Concat(put(p, end+1, 0, []byte{byte(n)})...), api.ErrForm)
			isNone(t, slices.Concat(put(p, end, 0, []byte{byte(n)})...), api.ErrForm)
		}
		extra := laidBlock(api.Block{Type: 6, Number: 99})
		for _, more := range [][]byte{extra, torn(laidBlock(api.Block{Type: 6, Number: 99, Crc: 1})), p[end-1], laidBlock(api.Block{Type: 1, Number: 2}), p[1], slices.Concat(p...), make([]byte, 4096), {28}, {91, 255}} {
			isNone(t, slices.Concat(put(p, end, 0, more)...), api.ErrForm)
			isNone(t, slices.Concat(put(p, end, 1, more)...), api.ErrForm)
			isNone(t, slices.Concat(put(p, end+1, 0, more)...), api.ErrForm)
		}
	}
}

// P11.2: without a Payload, head.Break stands where a value ought to, or nothing does; the first of two ends all, wherever it stands.
func TestPayloads(t *testing.T) {
	for _, b := range bundles() {
		p := pieces(b)
		end := len(p) - 1
		isNone(t, slices.Concat(put(p, end-1, 1)...), api.ErrForm)
		isNone(t, slices.Concat(p[:end-1]...), api.ErrShort)
		for at := 2; at < end-1; at++ {
			isNone(t, slices.Concat(put(p, at, 0, p[end-1])...), api.ErrForm)
			isNone(t, slices.Concat(put(put(p, end-1, 1), at, 0, p[end-1])...), api.ErrForm)
			isBundle(t, slices.Concat(slices.Concat(p[:at]...), p[end-1], p[end]), api.Bundle{P: b.P, Blocks: b.Blocks[:at-2], Payload: b.Payload})
		}
		isNone(t, slices.Concat(put(p, 1, 0, p[end-1])...), api.ErrType)
	}
}

// P11.2: 16 other blocks and the Payload as the 17th are read; a 17th other block is not, whatever follows, but for what is wrong with itself.
func TestManyBlocksAreRead(t *testing.T) {
	for _, front := range fronts() {
		b := with(front, 16)
		may(t, b)
		p := pieces(b)
		ones := put(p, 2, 16, slices.Repeat([][]byte{laidBlock(api.Block{Type: 6, Number: 1})}, 16)...)
		isNone(t, slices.Concat(ones...), api.ErrForm)
		for _, l := range [][][]byte{p, ones} {
			for _, w := range wrongs(b, 18) {
				isNone(t, slices.Concat(put(l, 18, 1, w.row)...), w.e)
				isNone(t, slices.Concat(put(l, 18, 0, w.row)...), w.e)
			}
			for _, x := range []api.Block{{Type: 6, Number: 99}, {Type: 0, Number: 1, Crc: 1}, {Type: 2, Number: 2, Crc: 2, Data: "data"}} {
				more := put(l, 18, 0, laidBlock(x))
				isNone(t, slices.Concat(more...), api.ErrBig)
				isNone(t, slices.Concat(more[:19]...), api.ErrBig)
				isNone(t, slices.Concat(put(more, 19, 0, laidBlock(x))...), api.ErrBig)
				isNone(t, slices.Concat(put(more, 19, 0, []byte{28})...), api.ErrBig)
				isNone(t, slices.Concat(put(more, 20, 0, []byte{28})...), api.ErrBig)
				isNone(t, slices.Concat(put(more, 17, 1, torn(laidBlock(api.Block{Type: 6, Number: 99, Crc: 2})))...), api.ErrSum)
			}
			isNone(t, slices.Concat(put(l, 18, 0, laidBlock(api.Block{Type: 1, Number: 2}))...), api.ErrForm)
		}
	}
}

// P11.2: blocks that may be each by itself, but not together; what stands behind the Payload is told alike.
func TestBlocksThatMayNotBeTogether(t *testing.T) {
	for _, n := range []int{0, 1, 2, 3, 16} {
		for _, front := range fronts() {
			for _, f := range together(n) {
				b := with(front, n)
				f.make(&b)
				if b.Payload.Type == 1 && !slices.ContainsFunc(b.Blocks, func(x api.Block) bool { return x.Type == 1 }) {
					isNone(t, bytesOfBundle(b), api.ErrForm)
					isNone(t, slices.Concat(pieces(b)[:n+3]...), api.ErrForm)
				}
			}
		}
	}
}

// filled is a bundle whose Payload is as long as it must be for so many bytes in all.
func filled(b api.Bundle, size int) api.Bundle {
	b.Payload.Data = strings.Repeat("\x00", 60000)
	b.Payload.Data = strings.Repeat("\x00", size-len(bytesOfBundle(b))+60000)
	return b
}

// P11.2: bytes of 2^16, right ones and wrong ones, and of more, which are told ahead of all.
func TestLongBytes(t *testing.T) {
	for _, b := range bundles() {
		b = filled(b, api.MaxText)
		row := bytesOfBundle(b)
		isBundle(t, row, b)
		isNone(t, put(row, 0, 1, 158), api.ErrForm)
		isNone(t, put(row, len(row)-1, 1, 254), api.ErrForm)
		isNone(t, append(put(row, 0, 1), 255), api.ErrForm)
		if b.Payload.Crc > 0 {
			isNone(t, put(row, len(row)-10, 1, row[len(row)-10]+1), api.ErrSum)
		}
		isNone(t, append(put(row, 0, 0), 255), api.ErrBig)
		isNone(t, put(row, 0, 0, 1), api.ErrBig)
		row = bytesOfBundle(filled(b, api.MaxText+1))
		isNone(t, row, api.ErrBig)
		isNone(t, put(row, 0, 1, 158), api.ErrBig)
	}
	for _, row := range [][]byte{make([]byte, api.MaxText), bytes.Repeat([]byte{159}, api.MaxText), bytes.Repeat([]byte{255}, api.MaxText)} {
		isNone(t, row, api.ErrForm)
		isNone(t, append(slices.Clone(row), row[0]), api.ErrBig)
		isNone(t, bytes.Repeat(row, 3), api.ErrBig)
	}
}

// reading tells what is read of bytes by the chapter's words, all values being told ahead of what they are.
func reading(row []byte) (api.Bundle, api.Errno) {
	var b api.Bundle
	if len(row) == 0 || row[0] != 159 {
		return b, api.ErrForm
	}
	v, at, e := item.Get(row[1:])
	if e == api.OK {
		b.P, e = primary.Get(v)
	}
	for at++; e == api.OK && b.Payload.Type != 1; {
		var size int
		var x api.Block
		if v, size, e = item.Get(row[at:]); e == api.OK {
			x, e = block.Get(v)
		}
		at += size
		if x.Type == 1 {
			b.Payload = x
		} else if b.Blocks = append(b.Blocks, x); e == api.OK && len(b.Blocks) == 17 {
			e = api.ErrBig
		}
	}
	if e == api.OK && string(row[at:]) != "\xff" {
		e = api.ErrForm
	}
	if e == api.OK {
		e = bundle.Check(b)
	}
	if e != api.OK {
		return api.Bundle{}, e
	}
	return b, api.OK
}

// P11.2, P11.5: each byte another one: with sums, no bundle's any more; without, what is read has just those bytes.
func TestEachByteAnotherOne(t *testing.T) {
	for _, b := range little() {
		row := bytesOfBundle(b)
		for at := range row {
			for n := range 256 {
				other := put(row, at, 1, byte(n))
				got, e := bundle.Get(other)
				want, f := reading(other)
				if e != f || !alike(got, want) {
					t.Errorf("%x: %s, %d, not %s, %d", other, brief(got), e, brief(want), f)
				}
				if bytes.Equal(other, row) {
					continue
				}
				if e == api.OK && (b.Payload.Crc > 0 || !bytes.Equal(bytesOfBundle(got), other)) {
					t.Errorf("%x is %s", other, brief(got))
				}
				if again, g := bundle.Put(got); e == api.OK && (g != api.OK || !bytes.Equal(again, other)) {
					t.Errorf("%x is %s, %x, %d", other, brief(got), again, g)
				}
			}
		}
	}
}

// P11.5: each byte left out, and each one twice: no bundle's any more with sums; what is read has just those bytes.
func TestEachByteGoneOrTwice(t *testing.T) {
	for _, b := range little() {
		row := bytesOfBundle(b)
		for at := range row {
			for _, other := range [][]byte{put(row, at, 1), put(row, at, 0, row[at]), row[at:], put(row, at, 0, row[:at]...)} {
				got, e := bundle.Get(other)
				want, f := reading(other)
				if e != f || !alike(got, want) {
					t.Errorf("%x: %s, %d, not %s, %d", other, brief(got), e, brief(want), f)
				}
				if e == api.OK && !bytes.Equal(bytesOfBundle(got), other) {
					t.Errorf("%x is %s", other, brief(got))
				}
			}
		}
	}
}

// P11.5, W5: what is laid in another way, but tells the same, is refused: heads that are longer, lists and bytes without length, a list of all with its length.
func TestOtherWaysToLay(t *testing.T) {
	b := api.Bundle{P: fronts()[0], Blocks: []api.Block{{Type: 7, Number: 2, Data: "a"}}, Payload: api.Block{Type: 1, Number: 1, Data: "h"}}
	p := pieces(b)
	isBundle(t, slices.Concat(p...), b)
	for _, other := range [][]byte{{152, 5, 1, 1, 0, 0, 65, 104}, {133, 24, 1, 1, 0, 0, 65, 104}, {133, 1, 1, 0, 0, 88, 1, 104}, {133, 1, 1, 0, 0, 95, 65, 104, 255}, {159, 1, 1, 0, 0, 65, 104, 255}} {
		isNone(t, slices.Concat(put(p, 3, 1, other)...), api.ErrForm)
	}
	isNone(t, slices.Concat(put(p, 3, 1, []byte{133, 1, 1, 0, 0, 97, 104})...), api.ErrType)
	isNone(t, slices.Concat(put(p, 3, 1, []byte{134, 1, 1, 0, 0, 65, 104, 64})...), api.ErrType)
	isNone(t, slices.Concat(put(p, 3, 1, []byte{193, 133, 1, 1, 0, 0, 65, 104})...), api.ErrType)
	isNone(t, slices.Concat(put(p, 0, 1, []byte{131})...), api.ErrForm)
	isNone(t, slices.Concat(put(p, 0, 1, []byte{217, 217, 247, 159})...), api.ErrForm)
}
