package primary_test

import (
	"bytes"
	"slices"
	"testing"

	"wagtail/api"
	"wagtail/item"
	"wagtail/primary"
)

// How far a value comes ahead of what is wrong with it, in the order in which errors are told.
const (
	ofType = iota
	ofDest
	ofSrc
	ofRep
	ofSum
	ofArg
	ofForm
	ofNone
)

// fault is what is wrong at a place, how far a value comes with it, and the error.
type fault struct {
	at   int
	v    any
	step int
	e    api.Errno
}

// parts are values of each type, and some of no type: none of them is a name's, a stamp's, or a number.
func parts() []any {
	n, b := uint64(7), []byte("h")
	return []any{nil, true, false, "", "h", "7", "//a", "dtn:none", "ipn:5.1", []any{}, []any(nil), []any{n}, []any{b}, []any{nil}, []any{[]any{n}}, []any{n, n, n}, []byte{}, b, []byte{7}, []byte("//a"), api.Minus(0), api.Minus(1), api.Minus(7), api.Minus(greatest),
		0, 1, 2, 7, int64(7), int32(1), int8(0), uint(7), uint32(1), uint16(0), uint8(7), uintptr(1), 7.0, float32(1), 1i, 'a', number(7), number(0), text("h"), octets("h"), octets{}, list{n}, list{}, list{uint64(1), uint64(0)}, [1]any{n}, [2]any{n, n}, [2]byte{}, [4]byte{}, []uint64{1, 0}, []int{1, 0}, []string{"h"}, [][]byte{b}, bytes.NewBufferString("h"), map[any]any{n: n}, me, nobody, &me, api.Stamp{}, &api.Stamp{}, api.Primary{}, api.OK, api.ErrType, &n, (*uint64)(nil), &b, (*[]byte)(nil), &[]any{n}, (*[]any)(nil), struct{}{}, func() {}, make(chan uint64)}
}

// wrongTypes are lists of other types within than a name's, or of schemes that there are not.
func wrongTypes() []any {
	one, two := uint64(1), uint64(2)
	pair := []any{uint64(5), one}
	return []any{[]any{}, []any{one}, []any{"//a"}, []any{one, uint64(0), uint64(0)}, []any{one, "//a", nil}, []any{two, pair, one}, []any{uint64(0), uint64(0)}, []any{uint64(3), uint64(0)}, []any{uint64(3), "//a"}, []any{uint64(3), pair}, []any{uint64(257), uint64(0)}, []any{uint64(greatest), pair}, []any{api.Minus(0), uint64(0)}, []any{1, uint64(0)}, []any{"1", uint64(0)}, []any{nil, nil}, []any{one, api.Minus(0)}, []any{one, []byte("//a")}, []any{one, pair}, []any{one, nil}, []any{one, 0}, []any{one, text("//a")},
		[]any{two, uint64(5)}, []any{two, "5.1"}, []any{two, "//a"}, []any{two, nil}, []any{two, []byte{5, 1}}, []any{two, list{uint64(5), one}}, []any{two, []any{}}, []any{two, []any{uint64(5)}}, []any{two, []any{uint64(5), one, one}}, []any{two, []any{uint64(5), "1"}}, []any{two, []any{api.Minus(0), one}}, []any{two, []any{uint64(5), nil}}, []any{two, []any{pair}}, []any{two, []any{5, one}}, pair, []any{pair}, []any{[]any{two, pair}}}
}

// wrongForms are lists of the types of a name that may not be.
func wrongForms() []any {
	one := uint64(1)
	l := []any{[]any{one, one}, []any{one, uint64(greatest)}, []any{one, ""}, []any{one, "none"}, []any{one, "dtn:none"}, []any{one, "dtn://a"}}
	for _, e := range wrongNames() {
		if e.Name != "" && e.Name != "//a" {
			l = append(l, []any{one, e.Name})
		}
	}
	return l
}

// wrongStamps are lists of no stamp.
func wrongStamps() []any {
	n := uint64(5)
	return []any{[]any{}, []any(nil), []any{n}, []any{n, n, n}, []any{n, nil}, []any{nil, n}, []any{n, "5"}, []any{n, []byte{5}}, []any{api.Minus(5), n}, []any{n, api.Minus(5)}, []any{n, []any{n}}, []any{[]any{n, n}}, []any{5, n}, []any{n, 5}, []any{n, number(5)}, []any{true, n}, []any{n, 5.0}, []any{uint64(2), []any{n, n}}, []any{uint64(1), "//a"}}
}

// torn is a list whose last value, a sum, has another bit.
func torn(l []any) []any {
	sum := slices.Clone(l[len(l)-1].([]byte))
	sum[len(sum)-1] ^= 1
	return with(l, len(l)-1, sum)
}

// isWrong looks at what is told of a list that comes so far, without its sum; with the one that is right, with others, and without one, if its kind has none.
func isWrong(t *testing.T, l []any, kind, step int, want api.Errno) {
	t.Helper()
	isNone(t, sealed(l, kind), want)
	if kind == 0 {
		return
	}
	if step > ofSum {
		want = api.ErrSum
	}
	isNone(t, torn(sealed(l, kind)), want)
	isNone(t, sealed(l, 3-kind), want)
	isNone(t, append(slices.Clone(l), []byte{}), want)
}

// P10.2: what is no list, and lists that are.
func TestValuesOfNoList(t *testing.T) {
	var none []any
	for _, v := range append(parts(), none, uint64(7), uint64(0)) {
		isNone(t, v, api.ErrType)
		isNone(t, []any{v}, api.ErrType)
	}
	for _, p := range little() {
		l := valueOf(p)
		for _, v := range []any{list(l), &l, bytesOf(l), string(bytesOf(l)), []any{l}, []any{l, l}, p, &p} {
			isNone(t, v, api.ErrType)
		}
	}
}

// P10.2: lists of none to twelve values, and of many: one too few and too many for what Flags and Crc say, wherever it went or came.
func TestListsOfOtherLengths(t *testing.T) {
	for _, p := range little() {
		l := valueOf(p)
		for n := range l {
			isNone(t, l[:n], api.ErrType)
			isNone(t, l[n+1:], api.ErrType)
			isNone(t, slices.Delete(slices.Clone(l), n, n+1), api.ErrType)
		}
		for _, more := range append(parts(), uint64(0), uint64(7), []byte{1, 2}, make([]byte, 4)) {
			isNone(t, append(slices.Clone(l), more), api.ErrType)
			isNone(t, append(slices.Clone(l), more, more), api.ErrType)
			isNone(t, append([]any{more}, l...), api.ErrType)
		}
		for kind := 1; kind <= 2; kind++ {
			isNone(t, sealed(l, kind), api.ErrType)
		}
		isNone(t, append(slices.Clone(l), l...), api.ErrType)
		isNone(t, slices.Repeat(l, 1000), api.ErrType)
	}
	for n := range 14 {
		for _, v := range []any{uint64(7), nil, []any{}, []byte{}} {
			isNone(t, slices.Repeat([]any{v}, n), api.ErrType)
		}
	}
}

// P10.2: Flags and Crc that say that there are more values than there are, or fewer.
func TestCountsThatFlagsAndKindsSay(t *testing.T) {
	for _, p := range little() {
		l := bare(p)
		for kind := range 3 {
			told := with(l, 2, uint64(kind))
			if kind > 0 {
				isNone(t, told, api.ErrType)
			} else {
				isNone(t, sealed(told, 1), api.ErrType)
				isNone(t, sealed(told, 2), api.ErrType)
			}
			turned := with(told, 1, p.Flags^1)
			isNone(t, turned, api.ErrType)
			isNone(t, sealed(turned, 1), api.ErrType)
			isNone(t, sealed(turned, 2), api.ErrType)
			isNone(t, append(slices.Clone(turned), uint64(0), uint64(0), uint64(0)), api.ErrType)
		}
		for _, kind := range append(numbers()[3:], 3, 4, 1<<32+1, 1<<32+2) {
			isWrong(t, with(l, 2, kind), 0, ofType, api.ErrType)
			isWrong(t, with(l, 2, kind), 1, ofType, api.ErrType)
			isWrong(t, with(l, 2, kind), 2, ofType, api.ErrType)
		}
	}
}

// P10.2: the first value is 7, and no other number.
func TestOtherVersions(t *testing.T) {
	for _, p := range little() {
		for _, n := range append(numbers(), 6, 8, 1<<32+7, 1<<8+7) {
			if n != 7 {
				isWrong(t, with(bare(p), 0, n), p.Crc, ofType, api.ErrType)
			}
		}
	}
}

// P10.2: Flags as great as may be, and greater: ErrArg, but for the sum; all bits but 0 are read as they are.
func TestGreatFlags(t *testing.T) {
	for _, p := range little() {
		for _, flags := range []uint64{1 << 21, 1<<21 + 4, 1<<32 + 4, 1 << 63, greatest - 1, greatest - 5} {
			isWrong(t, with(bare(p), 1, flags&^1|p.Flags&1), p.Crc, ofArg, api.ErrArg)
		}
		for bit := 21; bit < 64; bit++ {
			isWrong(t, with(bare(p), 1, p.Flags|1<<bit), p.Crc, ofArg, api.ErrArg)
		}
		if p.Src == nobody {
			continue
		}
		for _, flags := range []uint64{1<<21 - 1, 1<<21 - 5, 1<<20 + 1, 1 << 20} {
			q := p
			q.Flags = flags&^1 | p.Flags&1
			if q.Flags&5 == 5 {
				isWrong(t, bare(q), q.Crc, ofForm, api.ErrForm)
			} else {
				isBlock(t, valueOf(q), q)
			}
		}
	}
}

// holds tells whether a value is of the type that a block's list has at a place.
func holds(p api.Primary, at int, v any) bool {
	switch w := v.(type) {
	case uint64:
		return at < 3 || at > 6 && at < len(bare(p))
	case []byte:
		return at == len(bare(p))
	case []any:
		return at > 2 && at < 6 || at == 6 && len(w) == 2
	}
	return false
}

// P10.2: each other type at each place, the sum's, too, with a sum that was right, and with one that is right of what is there.
func TestValuesOfOtherTypes(t *testing.T) {
	for _, p := range little() {
		l := valueOf(p)
		for at := range l {
			for _, v := range append(parts(), uint64(7), []any{uint64(5), uint64(1)}) {
				if holds(p, at, v) {
					continue
				}
				isNone(t, with(l, at, v), api.ErrType)
				if at < len(bare(p)) {
					isWrong(t, with(bare(p), at, v), p.Crc, ofType, api.ErrType)
				}
			}
		}
	}
}

// P10.2: a sum as a text, or as a list, is of another type, byte for byte the same or not; names as bytes are, too.
func TestTextsAreNoBytes(t *testing.T) {
	for _, p := range little() {
		l := valueOf(p)
		if p.Crc > 0 {
			sum := l[len(l)-1].([]byte)
			isNone(t, with(l, len(l)-1, string(sum)), api.ErrType)
			isNone(t, with(l, len(l)-1, []any{sum}), api.ErrType)
			isNone(t, with(l, len(l)-1, octets(sum)), api.ErrType)
		}
		for at := 3; at < 6; at++ {
			isWrong(t, with(bare(p), at, []any{uint64(1), []byte("//a")}), p.Crc, at-2, api.ErrType)
			isWrong(t, with(bare(p), at, "//a"), p.Crc, ofType, api.ErrType)
		}
	}
}

// P10.2: names that are of other types within, of schemes there are not, and that may not be, each alone.
func TestWrongNames(t *testing.T) {
	for _, p := range little() {
		for at := 3; at < 6; at++ {
			for _, v := range wrongTypes() {
				isWrong(t, with(bare(p), at, v), p.Crc, at-2, api.ErrType)
			}
			for _, v := range wrongForms() {
				isWrong(t, with(bare(p), at, v), p.Crc, at-2, api.ErrForm)
			}
		}
	}
}

// P10.2: of several names that are wrong the first one's error is told, in the order Dest, Src, Rep.
func TestSeveralWrongNames(t *testing.T) {
	wrong := map[api.Errno][]any{api.ErrType: wrongTypes()[:6], api.ErrForm: wrongForms()[:6], api.OK: {nameOf(me)}}
	for _, p := range little() {
		for dest, dests := range wrong {
			for src, srcs := range wrong {
				for rep, reps := range wrong {
					want, step := dest, ofDest
					if want == api.OK {
						want, step = src, ofSrc
					}
					if want == api.OK {
						want, step = rep, ofRep
					}
					for i := range dests {
						l := with(with(with(bare(p), 3, dests[i]), 4, srcs[i%len(srcs)]), 5, reps[(5*i+1)%len(reps)])
						if want != api.OK {
							isWrong(t, l, p.Crc, step, want)
						}
					}
				}
			}
		}
	}
}

// P10.2: stamps that are no lists of two numbers; ErrType is told ahead of the names' errors, as all types are.
func TestWrongStamps(t *testing.T) {
	for _, p := range little() {
		for _, v := range append(wrongStamps(), uint64(5), "5 1", nil, []byte{5, 1}) {
			l := with(bare(p), 6, v)
			isWrong(t, l, p.Crc, ofType, api.ErrType)
			for at := 3; at < 6; at++ {
				isWrong(t, with(l, at, []any{uint64(1), "none"}), p.Crc, ofType, api.ErrType)
			}
		}
	}
}

// P10.2: sums that are other ones, of the other kind's length, and of others; none of them is another type.
func TestOtherSums(t *testing.T) {
	for _, p := range little() {
		if p.Crc == 0 {
			continue
		}
		l, last := valueOf(p), len(bare(p))
		sum, other := l[last].([]byte), sealed(bare(p), 3-p.Crc)[last].([]byte)
		reversed := slices.Clone(sum)
		slices.Reverse(reversed)
		wrong := [][]byte{nil, {}, reversed, other, sum[:1], sum[1:], append([]byte{0}, sum...), append(slices.Clone(sum), 0), make([]byte, 1), make([]byte, 2), make([]byte, 3), make([]byte, 4), make([]byte, 5), make([]byte, 8), slices.Concat(sum, sum), bytes.Repeat([]byte{255}, len(sum)), slices.Concat(other, sum), slices.Concat(sum, other), bytes.Repeat(sum, 10000), sumOf(p.Crc, nil), sumOf(1, bytesOf(bare(p))), sumOf(2, bytesOf(bare(p))), sumOf(p.Crc, bytesOf(l)), sumOf(p.Crc, bytesOf(l)[1:])}
		for _, s := range wrong {
			if !bytes.Equal(s, sum) {
				isNone(t, with(l, last, s), api.ErrSum)
			}
		}
		for bit := range 8 * len(sum) {
			s := slices.Clone(sum)
			s[bit/8] ^= 1 << (bit % 8)
			isNone(t, with(l, last, s), api.ErrSum)
		}
	}
}

// P10.2: the kind that the block tells counts: a sum that is right, but of the other kind, is another one.
func TestSumsOfTheOtherKind(t *testing.T) {
	for _, p := range little() {
		for kind := 1; kind <= 2; kind++ {
			isNone(t, sealed(with(bare(p), 2, uint64(kind)), 3-kind), api.ErrSum)
		}
	}
}

// P10.2: sums that are right of blocks that may not be, and such as are not: Check's error, or ErrSum ahead of it.
func TestValuesOfBlocksThatMayNotBe(t *testing.T) {
	for kind := range 3 {
		for _, c := range []struct {
			p api.Primary
			e api.Errno
		}{
			{api.Primary{Flags: 5, Src: me, Total: 1}, api.ErrForm}, {api.Primary{Flags: 1, Src: me}, api.ErrForm}, {api.Primary{Flags: 1, Src: me, Offset: 9, Total: 9}, api.ErrForm}, {api.Primary{Flags: 1, Src: me, Offset: greatest, Total: greatest}, api.ErrForm}, {api.Primary{Flags: 1, Src: me, Offset: greatest, Total: 1}, api.ErrForm}, {api.Primary{Flags: 1 << 21, Src: me}, api.ErrArg}, {api.Primary{Flags: greatest, Src: me, Offset: 5}, api.ErrArg}, {api.Primary{Flags: 1<<21 | 5, Src: nobody}, api.ErrArg},
			{api.Primary{Src: nobody}, api.ErrForm}, {api.Primary{Flags: 1, Src: nobody, Total: 1}, api.ErrForm}, {api.Primary{Flags: 5, Src: nobody, Total: 1}, api.ErrForm}, {api.Primary{Flags: 4 | 1<<14, Src: nobody}, api.ErrForm}, {api.Primary{Flags: 4 | 1<<15, Src: nobody}, api.ErrForm}, {api.Primary{Flags: 4 | 1<<16, Src: nobody}, api.ErrForm}, {api.Primary{Flags: 4 | 1<<17, Src: nobody}, api.ErrForm}, {api.Primary{Flags: 4 | 1<<18, Src: nobody}, api.ErrForm}, {api.Primary{Flags: 4 | 1<<21, Src: nobody}, api.ErrArg},
		} {
			c.p.Crc, c.p.Dest, c.p.Rep = kind, me, nobody
			isWrong(t, bare(c.p), kind, map[api.Errno]int{api.ErrArg: ofArg, api.ErrForm: ofForm}[c.e], c.e)
			for at := 3; at < 6; at++ {
				isWrong(t, with(bare(c.p), at, []any{uint64(1), "none"}), kind, at-2, api.ErrForm)
				isWrong(t, with(bare(c.p), at, []any{uint64(0), uint64(0)}), kind, at-2, api.ErrType)
			}
		}
	}
}

// faults are some of a block, at each of its places.
func faults(p api.Primary) []fault {
	l := []fault{{0, uint64(6), ofType, api.ErrType}, {0, nil, ofType, api.ErrType}, {1, "flags", ofType, api.ErrType}, {1, p.Flags ^ 1, ofType, api.ErrType}, {1, p.Flags | 1<<21, ofArg, api.ErrArg}, {1, p.Flags | 1<<63, ofArg, api.ErrArg}, {2, uint64(3), ofType, api.ErrType}, {2, uint64(greatest), ofType, api.ErrType}, {2, []byte{1}, ofType, api.ErrType}, {6, []any{uint64(5)}, ofType, api.ErrType}, {6, []any{uint64(5), api.Minus(1)}, ofType, api.ErrType}, {6, uint64(5), ofType, api.ErrType}, {7, api.Minus(7), ofType, api.ErrType}, {7, []any{}, ofType, api.ErrType}}
	for at := 3; at < 6; at++ {
		l = append(l, fault{at, uint64(1), ofType, api.ErrType}, fault{at, "//a", ofType, api.ErrType}, fault{at, []any{uint64(3), uint64(0)}, at - 2, api.ErrType}, fault{at, []any{uint64(2), uint64(5)}, at - 2, api.ErrType}, fault{at, []any{uint64(1)}, at - 2, api.ErrType}, fault{at, []any{uint64(1), "none"}, at - 2, api.ErrForm}, fault{at, []any{uint64(1), uint64(1)}, at - 2, api.ErrForm})
	}
	if p.Flags&4 == 0 || p.Flags&(31<<14) != 0 {
		l = append(l, fault{4, nameOf(nobody), ofForm, api.ErrForm})
	}
	if p.Flags&1 == 1 {
		l = append(l, fault{1, p.Flags | 4, ofForm, api.ErrForm}, fault{8, nil, ofType, api.ErrType}, fault{8, p.Total, ofForm, api.ErrForm}, fault{8, uint64(greatest), ofForm, api.ErrForm}, fault{9, "9", ofType, api.ErrType}, fault{9, p.Offset, ofForm, api.ErrForm}, fault{9, uint64(0), ofForm, api.ErrForm})
	}
	return l
}

// P10.2: each fault alone, and each two of them at once, with sums that are right, and others: the error that is named first is told.
func TestSeveralFaultsAtOnce(t *testing.T) {
	for _, p := range little() {
		l := faults(p)
		for i, a := range l {
			isWrong(t, with(bare(p), a.at, a.v), p.Crc, a.step, a.e)
			for _, b := range l[i+1:] {
				if a.at == b.at {
					continue
				}
				first := a
				if b.step < a.step {
					first = b
				}
				isWrong(t, with(with(bare(p), a.at, a.v), b.at, b.v), p.Crc, first.step, first.e)
			}
		}
	}
}

// P10.4: each one bit of a number that is another one: with a sum, it is told; without, it is another block, or none.
func TestEachBitOfNumbers(t *testing.T) {
	for _, p := range little() {
		l := valueOf(p)
		isNone(t, with(l, 1, p.Flags^1), api.ErrType)
		for bit := range 64 {
			isNone(t, with(l, 0, uint64(7)^1<<bit), api.ErrType)
			for i, q := range turned(p, bit) {
				v := append(bare(q), l[len(bare(p)):]...)
				switch e := primary.Check(q); {
				case q.Flags&1 != p.Flags&1, i > 3 && p.Flags&1 == 0:
				case p.Crc > 0:
					isNone(t, v, api.ErrSum)
				case e != api.OK:
					isNone(t, v, e)
				default:
					isBlock(t, v, q)
				}
			}
		}
	}
}

// turned are blocks of which one number has another bit there, Offset and Total behind all others.
func turned(p api.Primary, bit int) []api.Primary {
	l := slices.Repeat([]api.Primary{p}, 6)
	l[0].Flags ^= 1 << bit
	l[1].Stamp.Time ^= 1 << bit
	l[2].Stamp.Seq ^= 1 << bit
	l[3].Life ^= 1 << bit
	l[4].Offset ^= 1 << bit
	l[5].Total ^= 1 << bit
	return l
}

// P10.4: each one bit of the bytes, the heads' too, that is another one: with a sum, they are no value, or none of a block; without, perhaps another block's.
func TestEachBitOfBytes(t *testing.T) {
	for _, p := range little() {
		row, _ := primary.Put(p)
		for bit := range 8 * len(row) {
			other := slices.Clone(row)
			other[bit/8] ^= 1 << (bit % 8)
			v, e := item.Whole(other)
			if e != api.OK {
				continue
			}
			got, e := primary.Get(v)
			if e != api.OK && got != (api.Primary{}) || e == api.OK && (p.Crc > 0 || got == p) {
				t.Errorf("%x, with bit %d another one, is %s, %d", row, bit, brief(got), e)
			}
			if again, f := primary.Put(got); e == api.OK && (f != api.OK || !bytes.Equal(again, other)) {
				t.Errorf("%x becomes %x, %d", other, again, f)
			}
		}
	}
}

// R1: lists within lists, however deep, end, and are no block's.
func TestDeepValues(t *testing.T) {
	deep := any(valueOf(little()[1]))
	for range 1 << 15 {
		deep = []any{deep}
	}
	isNone(t, deep, api.ErrType)
	for _, p := range little()[:2] {
		for at := range valueOf(p) {
			isNone(t, with(valueOf(p), at, deep), api.ErrType)
		}
		isNone(t, append(valueOf(p), deep), api.ErrType)
		isNone(t, with(valueOf(p), 3, []any{uint64(2), deep}), api.ErrType)
		isNone(t, with(valueOf(p), 6, slices.Repeat([]any{uint64(1)}, 1<<20)), api.ErrType)
	}
}

// roomy is a list with spare room behind it, and behind all that is in it.
func roomy(l []any) []any {
	l = append(slices.Clone(l), "more", uint64(7), []byte{1, 2})[:len(l)]
	for i, v := range l {
		switch w := v.(type) {
		case []any:
			l[i] = roomy(w)
		case []byte:
			l[i] = append(slices.Clone(w), 1, 2, 3)[:len(w)]
		}
	}
	return l
}

// spoil makes all that is in a list another value, the spare room, too.
func spoil(l []any) {
	for i, v := range l {
		switch w := v.(type) {
		case []any:
			spoil(w)
		case []byte:
			clear(w[:cap(w)])
		}
		l[i] = "spoilt"
	}
	clear(l[:cap(l)])
}

// isKept tells whether a list, and all that is in it, still has that spare room behind it.
func isKept(l []any) bool {
	for _, v := range l {
		switch w := v.(type) {
		case []any:
			if !isKept(w) {
				return false
			}
		case []byte:
			if !bytes.Equal(w[:len(w)+3][len(w):], []byte{1, 2, 3}) {
				return false
			}
		}
	}
	room := l[:len(l)+3][len(l):]
	last, ok := room[2].([]byte)
	return room[0] == "more" && room[1] == uint64(7) && ok && bytes.Equal(last, []byte{1, 2})
}

// R3: what is handed in is not changed, its spare room neither, and that room counts for nothing; and it is not kept.
func TestValuesHandedInAreNotChanged(t *testing.T) {
	for _, p := range little() {
		for _, l := range [][]any{valueOf(p), with(valueOf(p), 4, []any{uint64(1), "none"}), with(valueOf(p), 7, uint64(9)), with(valueOf(p), 6, []any{uint64(1)})} {
			want, f := primary.Get(l)
			v := roomy(l)
			got, e := primary.Get(v)
			if e != f || !bytes.Equal(bytesOf(v), bytesOf(l)) || !isKept(v) {
				t.Errorf("%s became %s, %d, not %d", brief(l), brief(v[:cap(v)]), e, f)
			}
			isNone(t, v[:len(l)-1], api.ErrType)
			isNone(t, v[:len(l)+1], api.ErrType)
			spoil(v)
			if got != want {
				t.Errorf("%s became %s", brief(want), brief(got))
			}
			isNone(t, v, api.ErrType)
		}
		isBlock(t, roomy(valueOf(p)), p)
	}
}
