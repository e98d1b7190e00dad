package frag_test

import (
	"math"
	"slices"
	"testing"

	"wagtail/api"
	"wagtail/primary"
)

// marked is a fragment with those bytes at a place, of which much is unlike that of those with another mark.
func marked(mark int, text string, offset, total uint64) api.Bundle {
	n := uint64(mark)
	return api.Bundle{
		P:       api.Primary{Flags: 1 | n<<5, Crc: mark % 3, Dest: api.Eid{Scheme: 2, Node: n}, Src: me, Rep: api.Eid{Scheme: 2, Service: n}, Stamp: api.Stamp{Time: 5, Seq: 6}, Life: n, Offset: offset, Total: total},
		Blocks:  others(mark)[:mark],
		Payload: api.Block{Type: 1, Number: 1, Flags: 3 * n, Crc: (mark + 1) % 3, Data: text},
	}
}

// joinedOf are fragments of one bundle together, byte by byte, by their places, or what is told of them.
func joinedOf(l []api.Bundle) (api.Bundle, api.Errno) {
	total := l[0].P.Total
	bytes := map[uint64]byte{}
	var first []api.Bundle
	for _, b := range l {
		if b.P.Offset == 0 {
			first = append(first, b)
		}
		for i, x := range []byte(b.Payload.Data) {
			place := b.P.Offset + uint64(i)
			if old, ok := bytes[place]; place >= total || ok && old != x {
				return api.Bundle{}, api.ErrForm
			}
			bytes[place] = x
		}
	}
	if len(bytes) < int(total) {
		return api.Bundle{}, api.ErrNone
	}
	var row []byte
	for place := range total {
		row = append(row, bytes[place])
	}
	b := first[0]
	b.P.Flags, b.P.Offset, b.P.Total, b.Payload.Data = b.P.Flags-1, 0, 0, string(row)
	return b, api.OK
}

// joinsAs looks at whether fragments of one bundle are joined as they are byte by byte.
func joinsAs(t *testing.T, l []api.Bundle) {
	t.Helper()
	if want, e := joinedOf(l); e == api.OK {
		joins(t, l, want)
	} else {
		joinsNot(t, l, e)
	}
}

// P12.3: of none.
func TestJoinOfNone(t *testing.T) {
	joinsNot(t, nil, api.ErrNone)
	joinsNot(t, []api.Bundle{}, api.ErrNone)
}

// P12.3: a bundle alone that is no fragment: it, whatever its flags, and however long; two of them are none.
func TestJoinOfWholes(t *testing.T) {
	for _, n := range []int{0, 1, 2, 9, api.MaxText} {
		for _, b := range wholes(n) {
			joins(t, []api.Bundle{b}, b)
			joinsNot(t, []api.Bundle{b, b}, api.ErrForm)
			b.P.Flags |= 4
			joins(t, []api.Bundle{b}, b)
			b.P.Src, b.P.Flags = nobody, 4
			joins(t, []api.Bundle{b}, b)
			joinsNot(t, []api.Bundle{b, b, b}, api.ErrForm)
		}
	}
}

// P12.3: one fragment that is all is a whole bundle; of one that is not: beyond Total, or of a Total that is too great, ErrForm, else ErrNone.
func TestJoinOfOneFragment(t *testing.T) {
	for _, p := range fronts() {
		for _, n := range []int{0, 1, 2, 9} {
			for _, blocks := range []int{0, 1, 16} {
				for offset := range uint64(5) {
					for total := offset + 1; total < 15; total++ {
						b := with(piece(p, offset, total), blocks, n)
						switch end := offset + uint64(n); {
						case end > total:
							joinsNot(t, []api.Bundle{b}, api.ErrForm)
						case offset > 0 || end < total:
							joinsNot(t, []api.Bundle{b}, api.ErrNone)
						default:
							joins(t, []api.Bundle{b}, with(p, blocks, n))
						}
					}
				}
				for _, total := range []uint64{api.MaxText + 1, 1 << 17, 1 << 32, 1<<32 + 9, 1 << 63, greatest} {
					for _, offset := range []uint64{0, 1, total - 9, total - 1} {
						joinsNot(t, []api.Bundle{with(piece(p, offset, total), blocks, n)}, api.ErrForm)
					}
				}
			}
		}
	}
}

// P12.3: what bundle.Check tells of a bundle that may not be, at each place, alone, too; of two the first one's.
func TestJoinOfWhatMayNotBe(t *testing.T) {
	for _, w := range wrongs() {
		for _, p := range []api.Primary{fronts()[1], piece(fronts()[2], 0, 9), piece(fronts()[5], 3, 40)} {
			b := with(p, 2, 9)
			w.make(&b)
			joinsNot(t, []api.Bundle{b}, w.e)
			joinsNot(t, []api.Bundle{b, b}, w.e)
			joinsNot(t, []api.Bundle{with(p, 2, 9), b}, w.e)
		}
		for at := range 4 {
			l := must(t, with(fronts()[3], 3, 12), 3)
			w.make(&l[at])
			joinsNot(t, l, w.e)
			for _, v := range wrongs() {
				for behind := at + 1; behind < 4; behind++ {
					m := slices.Clone(l)
					v.make(&m[behind])
					joinsNot(t, m, w.e)
				}
			}
		}
	}
}

// P12.3: a bundle that is no fragment among fragments, at each place, and with all bytes.
func TestJoinOfAWholeAmongFragments(t *testing.T) {
	for _, b := range wholes(9) {
		l := must(t, b, 3)
		for at := range 4 {
			joinsNot(t, slices.Insert(slices.Clone(l), at, b), api.ErrForm)
		}
		for at := range 3 {
			m := slices.Clone(l)
			m[at].P = primary.Whole(m[at].P)
			joinsNot(t, m, api.ErrForm)
		}
		joinsNot(t, []api.Bundle{b, with(piece(b.P, 0, 9), 1, 9)}, api.ErrForm)
		joinsNot(t, []api.Bundle{with(piece(b.P, 0, 9), 1, 9), b}, api.ErrForm)
	}
}

// P12.3: fragments that are unlike in what a bundle is known by, at each place, have nothing to do with each other.
func TestJoinOfOtherBundles(t *testing.T) {
	for _, change := range []func(p *api.Primary){
		func(p *api.Primary) { p.Src.Service ^= 1 },
		func(p *api.Primary) { p.Src.Node ^= 1 << 40 },
		func(p *api.Primary) { p.Src = api.Eid{Scheme: 1, Name: "//b/d"} },
		func(p *api.Primary) { p.Stamp.Time ^= 1 },
		func(p *api.Primary) { p.Stamp.Time ^= 1 << 63 },
		func(p *api.Primary) { p.Stamp.Seq ^= 1 },
		func(p *api.Primary) { p.Total++ },
		func(p *api.Primary) { p.Total = greatest },
	} {
		for _, whole := range []api.Bundle{with(fronts()[0], 2, 12), with(fronts()[2], 0, 12)} {
			l := must(t, whole, 3)
			for at := range l {
				m := slices.Clone(l)
				change(&m[at].P)
				joinsNot(t, m, api.ErrForm)
				joinsNot(t, []api.Bundle{l[at], m[at]}, api.ErrForm)
				joinsNot(t, slices.Insert(slices.Clone(l), at, m[at]), api.ErrForm)
				joinsNot(t, append(slices.Clone(l), m[at]), api.ErrForm)
			}
		}
	}
}

// P12.3: fragments that are unlike in all else alone are of one bundle; what is answered has what the one of Offset 0 has.
func TestJoinOfWhatElseIsUnlike(t *testing.T) {
	for _, change := range []func(b *api.Bundle){
		func(b *api.Bundle) { b.P.Dest = api.Eid{Scheme: 1, Name: "//x"} },
		func(b *api.Bundle) { b.P.Rep = api.Eid{Scheme: 1, Name: "//y"} },
		func(b *api.Bundle) { b.P.Life ^= 7 },
		func(b *api.Bundle) { b.P.Crc = (b.P.Crc + 1) % 3 },
		func(b *api.Bundle) { b.P.Flags ^= 2 },
		func(b *api.Bundle) { b.P.Flags ^= 1 << 20 },
		func(b *api.Bundle) { b.Payload.Flags ^= 1 << 40 },
		func(b *api.Bundle) { b.Payload.Crc = (b.Payload.Crc + 1) % 3 },
		func(b *api.Bundle) { b.Blocks = others(5)[3:] },
		func(b *api.Bundle) { b.Blocks = nil },
	} {
		for _, whole := range wholes(12) {
			for at := range 4 {
				want, l := whole, must(t, whole, 3)
				change(&l[at])
				if at == 0 {
					change(&want)
				}
				for _, order := range orders(l) {
					joins(t, order, want)
				}
			}
		}
	}
}

// P12.3: fragments that reach beyond Total by one byte and by far, at each place, whatever else is there.
func TestJoinBeyondTotal(t *testing.T) {
	for _, b := range wholes(12) {
		l := must(t, b, 3)
		for at := range l {
			for _, more := range []int{1, 2, 4, 250, api.MaxText - 12} {
				m := slices.Clone(l)
				m[at].Payload.Data = data(12 + more)[m[at].P.Offset:]
				for _, order := range orders(m) {
					joinsNot(t, order, api.ErrForm)
				}
				joinsNot(t, m[at:at+1], api.ErrForm)
			}
			m := slices.Clone(l)
			m[at].Payload.Data = data(12)[m[at].P.Offset:]
			joins(t, m, b)
		}
		joinsNot(t, append(slices.Clone(l), with(piece(b.P, 11, 12), 0, 2)), api.ErrForm)
	}
}

// P12.3: Totals up to MaxText, and beyond, of fragments that have all, and that have not.
func TestJoinOfGreatTotals(t *testing.T) {
	for _, b := range []api.Bundle{with(fronts()[0], 2, api.MaxText), with(fronts()[5], 16, api.MaxText)} {
		l := must(t, b, 20000)
		for _, order := range orders(l) {
			joins(t, order, b)
			joinsNot(t, order[1:], api.ErrNone)
		}
		l[3].Payload.Data += "x"
		joinsNot(t, l, api.ErrForm)
		for _, total := range []uint64{api.MaxText + 1, api.MaxText + 2, 1 << 17, 1 << 32, 1<<32 + api.MaxText, 1 << 63, greatest} {
			m := slices.Clone(l)
			for at := range m {
				m[at].P.Total = total
			}
			joinsNot(t, m, api.ErrForm)
			joinsNot(t, m[:2], api.ErrForm)
			last := m[3]
			last.P.Offset = total - uint64(len(last.Payload.Data)) + 1
			joinsNot(t, []api.Bundle{m[0], last}, api.ErrForm)
		}
	}
	one := marked(0, data(api.MaxText), 0, api.MaxText)
	joinsAs(t, []api.Bundle{one})
	joinsAs(t, []api.Bundle{one, one, marked(1, "", api.MaxText-1, api.MaxText)})
	joinsNot(t, []api.Bundle{marked(0, data(api.MaxText), 0, api.MaxText+1), marked(0, "x", api.MaxText, api.MaxText+1)}, api.ErrForm)
}

// forms are what makes a fragment no part of the others' bundle, or unlike another one of the same place, while it may be by itself.
func forms() []func(b *api.Bundle) {
	return []func(b *api.Bundle){
		func(b *api.Bundle) { b.P = primary.Whole(b.P) },
		func(b *api.Bundle) { b.P.Src.Name += "x" },
		func(b *api.Bundle) { b.P.Stamp.Time ^= 1 },
		func(b *api.Bundle) { b.P.Stamp.Seq ^= 1 },
		func(b *api.Bundle) { b.P.Total++ },
		func(b *api.Bundle) { b.P.Total = greatest },
		func(b *api.Bundle) { b.Payload.Data = data(60)[b.P.Offset:] },
		func(b *api.Bundle) { b.Payload.Data = "\x99" },
	}
}

// wrongAhead looks at whether a bundle that may not be is told ahead of all else, at each place.
func wrongAhead(t *testing.T, l []api.Bundle) {
	t.Helper()
	for at := range l {
		for _, w := range wrongs() {
			m := slices.Clone(l)
			w.make(&m[at])
			joinsNot(t, m, w.e)
		}
	}
}

// P12.3: of several faults the one that is named first is told, wherever they are: a bundle's own, then ErrForm, then ErrNone.
func TestJoinOfSeveralFaults(t *testing.T) {
	whole := with(fronts()[1], 3, 12)
	twice := slices.Repeat(must(t, whole, 3), 2)
	joins(t, twice, whole)
	without := func(l []api.Bundle, hole int) []api.Bundle {
		return slices.Concat(l[:hole], l[hole+1:hole+4], l[hole+5:])
	}
	for hole := range 4 {
		l := without(twice, hole)
		joinsNot(t, l, api.ErrNone)
		wrongAhead(t, l)
	}
	for at := range twice {
		for _, form := range forms() {
			l := slices.Clone(twice)
			form(&l[at])
			joinsNot(t, l, api.ErrForm)
			wrongAhead(t, l)
			for hole := range 4 {
				if hole != at%4 {
					m := without(l, hole)
					joinsNot(t, m, api.ErrForm)
					wrongAhead(t, m)
				}
			}
		}
	}
}

// P12.3: int's ends as kinds of sums among fragments are an error of the bundle, whatever is behind.
func TestJoinOfKindsThatMayNotBe(t *testing.T) {
	for _, kind := range []int{-1, 3, math.MinInt, math.MaxInt} {
		l := must(t, with(fronts()[1], 3, 12), 3)
		l[2].Payload.Crc = kind
		joinsNot(t, l, api.ErrArg)
		joinsNot(t, l[1:], api.ErrArg)
		joinsNot(t, l[:2], api.ErrNone)
	}
}
