package block_test

import (
	"bytes"
	"encoding/hex"
	"slices"
	"strings"
	"testing"

	"wagtail/api"
	"wagtail/block"
	"wagtail/item"
)

// blocks are some that may be: all numbers, kinds and Data are there, and each of them with several others.
func blocks() []api.Block {
	var l []api.Block
	all := numbers()
	for i, n := range all {
		for j, data := range texts() {
			for kind := range 3 {
				l = append(l, api.Block{Type: all[(i+j)%len(all)], Number: max(n, 1), Flags: all[(i*j+kind)%len(all)], Crc: kind, Data: data})
			}
		}
	}
	return l
}

// little are blocks whose every bit can be turned.
func little() []api.Block {
	var l []api.Block
	for kind := range 3 {
		l = append(l, api.Block{Type: 1, Number: 1, Crc: kind, Data: "h"}, api.Block{Number: 1, Crc: kind}, api.Block{Type: 6, Number: 2, Flags: 16, Crc: kind, Data: "abc"}, api.Block{Type: 23, Number: 24, Flags: 255, Crc: kind, Data: strings.Repeat("\x00", 23)}, api.Block{Type: 256, Number: 65536, Flags: 1 << 32, Crc: kind, Data: strings.Repeat("\xa5", 300)}, api.Block{Type: greatest, Number: greatest, Flags: greatest, Crc: kind, Data: "\x00\xff"})
	}
	return l
}

// tooLong are Data of more bytes than there may be.
func tooLong() []string {
	return []string{strings.Repeat("x", api.MaxText+1), strings.Repeat("\x00", api.MaxText+2), strings.Repeat("x", 2*api.MaxText)}
}

// may looks at what is told of a block that may be.
func may(t *testing.T, b api.Block) {
	t.Helper()
	want := bytesOf(valueOf(b))
	if e := block.Check(b); e != api.OK {
		t.Errorf("Check(%s) = %d", brief(b), e)
	}
	if row, e := block.Put(b); e != api.OK || !bytes.Equal(row, want) {
		t.Errorf("Put(%s) = %.50x, %d, not %.50x", brief(b), row, e, want)
	}
	if n := block.Size(b); n != len(want) {
		t.Errorf("Size(%s) = %d, not %d", brief(b), n, len(want))
	}
}

// mayNot looks at what is told of a block that may not be.
func mayNot(t *testing.T, b api.Block, want api.Errno) {
	t.Helper()
	if e := block.Check(b); e != want {
		t.Errorf("Check(%s) = %d, not %d", brief(b), e, want)
	}
	row, e := block.Put(b)
	tells(t, b, len(row) == 0 && block.Size(b) == 0, e, want)
}

// isBlock looks at what is read of a value that is that block's.
func isBlock(t *testing.T, v any, b api.Block) {
	t.Helper()
	if got, e := block.Get(v); got != b || e != api.OK {
		t.Errorf("Get(%s) = %s, %d, not %s", brief(v), brief(got), e, brief(b))
	}
}

// isNone looks at what is read of a value that is no block's.
func isNone(t *testing.T, v any, want api.Errno) {
	t.Helper()
	got, e := block.Get(v)
	tells(t, v, got == api.Block{}, e, want)
}

// P9.1: blocks whose bytes are known from elsewhere: the chapter's example, two of RFC 9173, and some whose sums were told by tables.
func TestKnownBlocks(t *testing.T) {
	for digits, b := range map[string]api.Block{
		"85010100004168": {Type: 1, Number: 1, Data: "h"}, "8601010001416842e4a1": {Type: 1, Number: 1, Crc: 1, Data: "h"}, "8601010002416844a503519a": {Type: 1, Number: 1, Crc: 2, Data: "h"},
		"85010100005823526561647920746f2067656e657261746520612033322d62797465207061796c6f6164": {Type: 1, Number: 1, Data: "Ready to generate a 32-byte payload"}, "85070200004319012c": {Type: 7, Number: 2, Data: "\x19\x01\x2c"},
		"86070200014319012c421882": {Type: 7, Number: 2, Crc: 1, Data: "\x19\x01\x2c"}, "86070200024319012c44dd9a9de0": {Type: 7, Number: 2, Crc: 2, Data: "\x19\x01\x2c"}, "860a0310024482181e0044ae29bf8e": {Type: 10, Number: 3, Flags: 16, Crc: 2, Data: "\x82\x18\x1e\x00"}, "860602000243616263442ba74886": {Type: 6, Number: 2, Crc: 2, Data: "abc"},
		"8500010000 40": {Number: 1}, "86000100014042e0c7": {Number: 1, Crc: 1}, "86000100024044cdb41bea": {Number: 1, Crc: 2},
		"861bffffffffffffffff1bffffffffffffffff1bffffffffffffffff0140420282": {Type: greatest, Number: greatest, Flags: greatest, Crc: 1}, "861bffffffffffffffff1bffffffffffffffff1bffffffffffffffff024044bbcf17c4": {Type: greatest, Number: greatest, Flags: greatest, Crc: 2},
	} {
		want, f := hex.DecodeString(strings.ReplaceAll(digits, " ", ""))
		if row, e := block.Put(b); f != nil || e != api.OK || !bytes.Equal(row, want) || block.Size(b) != len(want) {
			t.Errorf("%s: %v, Put is %x, %d, Size %d", digits, f, row, e, block.Size(b))
		}
		v, e := item.Whole(want)
		if e != api.OK {
			t.Errorf("%s: %d", digits, e)
		}
		isBlock(t, v, b)
	}
}

// P9.1: blocks that may be, with the bytes of their value, and as many as Size tells.
func TestBlocksThatMayBe(t *testing.T) {
	for _, b := range blocks() {
		may(t, b)
	}
	for _, n := range numbers() {
		for _, m := range numbers() {
			for _, k := range numbers() {
				for kind := range 3 {
					may(t, api.Block{Type: n, Number: max(m, 1), Flags: k, Crc: kind, Data: "h"})
				}
			}
		}
	}
}

// P9.1: blocks that may not be, for one of the reasons, and for several, of which the first one is told.
func TestBlocksThatMayNotBe(t *testing.T) {
	mayNot(t, api.Block{}, api.ErrArg)
	for _, n := range numbers() {
		for _, data := range append(texts(), tooLong()...) {
			for kind := range 3 {
				mayNot(t, api.Block{Type: n, Flags: n, Crc: kind, Data: data}, api.ErrArg)
			}
		}
		for _, kind := range otherKinds() {
			mayNot(t, api.Block{Type: n, Number: n, Flags: n, Crc: kind, Data: "h"}, api.ErrArg)
			mayNot(t, api.Block{Type: n, Number: n, Flags: n, Crc: kind, Data: tooLong()[0]}, api.ErrArg)
		}
		for kind := range 3 {
			for _, data := range tooLong() {
				mayNot(t, api.Block{Type: n, Number: max(n, 1), Flags: n, Crc: kind, Data: data}, api.ErrBig)
			}
		}
	}
}

// P9.4: there and back again, by the value, and by the bytes, too; no two blocks have the same bytes.
func TestThereAndBack(t *testing.T) {
	seen := map[string]api.Block{}
	for _, b := range blocks() {
		isBlock(t, valueOf(b), b)
		row, e := block.Put(b)
		v, f := item.Whole(row)
		if e != api.OK || f != api.OK {
			t.Errorf("%s: %d, %d", brief(b), e, f)
		}
		isBlock(t, v, b)
		if b.Data == "" {
			isBlock(t, with(valueOf(b), 4, []byte(nil)), b)
		}
		if other, ok := seen[string(row)]; ok && other != b {
			t.Errorf("%s has the bytes of %s", brief(b), brief(other))
		}
		seen[string(row)] = b
	}
}

// P9.2: what is no list, and lists of none to seven values, and of many.
func TestListsOfNoBlock(t *testing.T) {
	var none []any
	for _, v := range append(parts(), none, uint64(1), []byte("h"), list(valueOf(little()[0])), [5]any(valueOf(little()[0]))) {
		isNone(t, v, api.ErrType)
	}
	for _, b := range little() {
		l := valueOf(b)
		for n := range l {
			isNone(t, l[:n], api.ErrType)
			isNone(t, l[n+1:], api.ErrType)
			isNone(t, slices.Delete(slices.Clone(l), n, n+1), api.ErrType)
		}
		for _, more := range []any{uint64(0), uint64(1), []byte{}, make([]byte, 2), make([]byte, 4), nil, []any{}} {
			isNone(t, append(slices.Clone(l), more), api.ErrType)
			isNone(t, append(slices.Clone(l), more, more), api.ErrType)
			isNone(t, append([]any{more}, l...), api.ErrType)
		}
		isNone(t, sealedList(l, 1), api.ErrType)
		isNone(t, sealedList(l, 2), api.ErrType)
		isNone(t, []any{l}, api.ErrType)
		isNone(t, slices.Repeat(l, 1000), api.ErrType)
	}
}

// P9.2: five values of a kind that has a sum, six of 0, and kinds of which there is none, with sums that are right, and without.
func TestValuesOfOtherKinds(t *testing.T) {
	for _, b := range little() {
		five := valueOf(b)[:5]
		for _, kind := range append(numbers(), 3, 4, 1<<32+1, 1<<32+2) {
			told := with(five, 3, kind)
			if kind != 0 {
				isNone(t, told, api.ErrType)
			}
			for _, sealed := range [][]any{sealedList(told, 1), sealedList(told, 2), append(slices.Clone(told), []byte{})} {
				if kind != 1 && kind != 2 {
					isNone(t, sealed, api.ErrType)
				}
			}
		}
	}
}

// P9.2: each other type at each place, with a sum that was right, and with one that is right of what is there.
func TestValuesOfOtherTypes(t *testing.T) {
	for _, b := range little() {
		l := valueOf(b)
		for at := range l {
			others := append(parts(), uint64(1), []byte("h"))
			for i, p := range others {
				if i == len(others)-1 && at > 3 || i == len(others)-2 && at < 4 {
					continue
				}
				isNone(t, with(l, at, p), api.ErrType)
				if b.Crc > 0 && at < 5 {
					isNone(t, sealedList(with(l, at, p)[:5], b.Crc), api.ErrType)
				}
			}
		}
	}
}

// P9.2: a text in the place of bytes, and bytes in the place of a text: Data, and the sum, as a text are of another type, byte for byte the same or not.
func TestTextsAreNoBytes(t *testing.T) {
	for _, b := range little() {
		l := valueOf(b)
		isNone(t, with(l, 4, b.Data), api.ErrType)
		isNone(t, with(l, 4, any([]any{[]byte(b.Data)})), api.ErrType)
		if b.Crc > 0 {
			isNone(t, with(l, 5, string(l[5].([]byte))), api.ErrType)
			isNone(t, sealedList(with(l[:5], 4, b.Data), b.Crc), api.ErrType)
		}
	}
}

// P9.2: sums that are other ones, of the other kind's length, and of others; none of them is another type.
func TestOtherSums(t *testing.T) {
	for _, b := range little() {
		if b.Crc == 0 {
			continue
		}
		l := valueOf(b)
		sum := l[5].([]byte)
		other := sealedList(l[:5], 3-b.Crc)[5].([]byte)
		wrong := [][]byte{nil, {}, other, sum[:1], sum[1:], append([]byte{0}, sum...), append(slices.Clone(sum), 0), make([]byte, 1), make([]byte, 2), make([]byte, 3), make([]byte, 4), make([]byte, 5), make([]byte, 8), slices.Concat(sum, sum), bytes.Repeat([]byte{255}, len(sum)), slices.Concat(other, sum), slices.Concat(sum, other), bytes.Repeat(sum, 10000)}
		turned := slices.Clone(sum)
		slices.Reverse(turned)
		for _, s := range append(wrong, turned) {
			if !bytes.Equal(s, sum) {
				isNone(t, with(l, 5, s), api.ErrSum)
			}
		}
		short, long := sumOf(1, bytesOf(l[:5])), sumOf(2, bytesOf(l[:5]))
		isNone(t, with(l, 5, short), api.ErrSum)
		isNone(t, with(l, 5, long), api.ErrSum)
		isNone(t, with(l, 5, sumOf(b.Crc, nil)), api.ErrSum)
	}
}

// P9.2: the kind told is the kind that counts: a sum that is right for the other one is another sum.
func TestSumsOfTheOtherKind(t *testing.T) {
	for _, b := range little() {
		for kind := 1; kind <= 2; kind++ {
			five := with(valueOf(b)[:5], 3, uint64(kind))
			isNone(t, sealedList(five, 3-kind), api.ErrSum)
		}
	}
}

// P9.2: values of blocks that may not be: with a sum that is right, Check's error; with another one, ErrSum ahead of it.
func TestValuesOfBlocksThatMayNotBe(t *testing.T) {
	for kind := range 3 {
		for _, data := range append(tooLong(), "", "h") {
			noNumber := api.Block{Type: 1, Flags: 1, Crc: kind, Data: data}
			isNone(t, valueOf(noNumber), api.ErrArg)
			tooBig := api.Block{Type: 1, Number: 1, Crc: kind, Data: data}
			if len(data) > api.MaxText {
				isNone(t, valueOf(tooBig), api.ErrBig)
			}
			if kind == 0 {
				continue
			}
			for _, b := range []api.Block{noNumber, tooBig} {
				for _, sum := range [][]byte{{}, {1}, {0, 1}, {0, 0, 0, 1}, {0, 0, 0, 0, 1}} {
					isNone(t, with(valueOf(b), 5, sum), api.ErrSum)
				}
			}
			isNone(t, with(valueOf(noNumber), 4, data), api.ErrType)
			isNone(t, with(valueOf(tooBig), 0, api.Minus(0)), api.ErrType)
		}
	}
}

// P9.4: each one bit of a value that is another one: with a sum, it is told; without, it is another block, or none.
func TestEachBitOfValues(t *testing.T) {
	for _, b := range little() {
		l := valueOf(b)
		for at := range 3 {
			for bit := range 64 {
				n := l[at].(uint64) ^ 1<<bit
				v := with(l, at, n)
				switch other := [3]uint64{b.Type, b.Number, b.Flags}; {
				case b.Crc > 0:
					isNone(t, v, api.ErrSum)
				case at == 1 && n == 0:
					isNone(t, v, api.ErrArg)
				default:
					other[at] = n
					isBlock(t, v, api.Block{Type: other[0], Number: other[1], Flags: other[2], Data: b.Data})
				}
			}
		}
		for bit := range 64 {
			isNone(t, with(l, 3, uint64(b.Crc)^1<<bit), api.ErrType)
		}
	}
}

// P9.4: each one bit of Data, and of the sum, that is another one, is told by the sum.
func TestEachBitOfDataAndSums(t *testing.T) {
	for _, b := range append(little(), api.Block{Type: 1, Number: 1, Crc: 1, Data: strings.Repeat("data", 500)}, api.Block{Type: 1, Number: 1, Crc: 2, Data: strings.Repeat("data", 500)}) {
		l := valueOf(b)
		for at := 4; at < len(l); at++ {
			whole := l[at].([]byte)
			for bit := range 8 * len(whole) {
				torn := slices.Clone(whole)
				torn[bit/8] ^= 1 << (bit % 8)
				if b.Crc > 0 {
					isNone(t, with(l, at, torn), api.ErrSum)
					continue
				}
				other := b
				other.Data = string(torn)
				isBlock(t, with(l, at, torn), other)
			}
		}
	}
}

// P9.4: each one bit of the bytes of a block with a sum, the heads' too, that is another one: they are no value, or none of a block.
func TestEachBitOfBytes(t *testing.T) {
	for _, b := range little() {
		row, _ := block.Put(b)
		if b.Crc == 0 {
			continue
		}
		for bit := range 8 * len(row) {
			torn := slices.Clone(row)
			torn[bit/8] ^= 1 << (bit % 8)
			v, e := item.Whole(torn)
			if e != api.OK {
				continue
			}
			if got, e := block.Get(v); e == api.OK || got != (api.Block{}) {
				t.Errorf("%x, with bit %d another one, is %v, %d", row, bit, got, e)
			}
		}
	}
}

// R1: lists within lists, however deep, end, and are no block's.
func TestDeepValues(t *testing.T) {
	deep := any(valueOf(little()[6]))
	for range 1 << 15 {
		deep = []any{deep}
	}
	isNone(t, deep, api.ErrType)
	for at := range 6 {
		isNone(t, with(valueOf(little()[6]), at, deep), api.ErrType)
	}
}

// R3: what is handed in is not changed, its spare room neither, and that room counts for nothing; and it is not kept.
func TestValuesHandedInAreNotChanged(t *testing.T) {
	for _, b := range little() {
		l := valueOf(b)
		data := append([]byte(b.Data), "spare room"...)[:len(b.Data)]
		roomy := append(with(l, 4, data), "more", uint64(7), []byte{1, 2})
		v := roomy[:len(l)]
		isBlock(t, v, b)
		isNone(t, roomy[:len(l)-1], api.ErrType)
		isNone(t, roomy[:len(l)+1], api.ErrType)
		if got := bytesOf(roomy); !bytes.Equal(got, bytesOf(append(slices.Clone(l), "more", uint64(7), []byte{1, 2}))) || string(data[:cap(data)][len(data):][:10]) != "spare room" {
			t.Errorf("%s became %s", brief(l), brief(roomy))
		}
		got, _ := block.Get(v)
		clear(data[:cap(data)])
		clear(roomy)
		if got != b {
			t.Errorf("%s became %s", brief(b), brief(got))
		}
		isNone(t, v, api.ErrType)
	}
}

// R3: what is answered is new memory: no other answer hangs on what becomes of it.
func TestBytesAreNewMemory(t *testing.T) {
	for _, b := range little() {
		first, _ := block.Put(b)
		second, _ := block.Put(b)
		_ = append(first, "more"...)
		clear(first[:cap(first)])
		if !bytes.Equal(second, bytesOf(valueOf(b))) {
			t.Errorf("%s: %x", brief(b), second)
		}
		may(t, b)
	}
}

// R4: what is answered hangs on what is handed in, not on what was asked before.
func TestAnswersHangOnArgumentsAlone(t *testing.T) {
	all := append(little(), api.Block{}, api.Block{Number: 1, Crc: 3}, api.Block{Number: 1, Crc: -1}, api.Block{Number: 1, Crc: 1, Data: tooLong()[0]})
	asked := func(b api.Block) []any {
		row, e := block.Put(b)
		got, f := block.Get(valueOf(b))
		wrong, g := block.Get(with(valueOf(b), 4, b.Data))
		sealed, h := block.Seal(valueOf(b), b.Crc)
		_, kind, k := block.Open(valueOf(b))
		return []any{block.Check(b), block.Size(b), string(row), e, got, f, wrong, g, string(sealed), h, kind, k}
	}
	var first [][]any
	for _, b := range all {
		first = append(first, asked(b))
	}
	for i, b := range slices.Backward(all) {
		if got := asked(b); !slices.Equal(got, first[i]) {
			t.Errorf("%s: %s, and then %s", brief(b), brief(first[i]), brief(got))
		}
	}
}
