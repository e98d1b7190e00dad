package frag_test

import (
	"math"
	"testing"

	"wagtail/api"
	"wagtail/frag"
)

// ints are 0, the least and the greatest int, those next to them, and some within.
func ints() []int {
	l := []int{math.MinInt, math.MinInt + 1, -1 << 32, -3, -2, -1, 1023, 1024, 1025, 65535, 65536, 65537, 1<<31 - 1, 1 << 31, 1 << 32, 1 << 62, 1<<62 + 1, math.MaxInt/3*2 + 1, math.MaxInt - 2, math.MaxInt - 1, math.MaxInt}
	for n := range 30 {
		l = append(l, n)
	}
	return l
}

// P12.1: n divided by size, rounded up: of all numbers, one below and one above a multiple, of the greatest one; 1 of 0; 0 of what is below 0, and of sizes below 1.
func TestMany(t *testing.T) {
	is := func(n, size, want int) {
		t.Helper()
		if got := frag.Many(n, size); got != want {
			t.Errorf("Many(%d, %d) = %d, not %d", n, size, got, want)
		}
	}
	for _, c := range [][3]int{{7, 3, 3}, {6, 3, 2}, {5, 3, 2}, {1, 3, 1}, {0, 3, 1}, {-1, 3, 0}, {3, 0, 0}, {3, -1, 0}, {-1, -1, 0}, {0, 0, 0}, {0, -1, 0}, {0, 1, 1}, {1, 1, 1}, {math.MaxInt, 1, math.MaxInt}, {math.MaxInt, math.MaxInt, 1}, {math.MaxInt, math.MaxInt - 1, 2}, {math.MaxInt - 1, math.MaxInt, 1}, {math.MaxInt, 2, 1 << 62}, {1, math.MaxInt, 1}, {2, math.MaxInt, 1}, {math.MinInt, 1, 0}, {math.MinInt, math.MinInt, 0}, {math.MinInt, -1, 0}} {
		is(c[0], c[1], c[2])
	}
	for _, size := range ints() {
		for _, n := range ints() {
			is(n, size, manyOf(n, size))
		}
		for _, times := range []int{1, 2, 3, 10, 1024} {
			if size > 0 && size < math.MaxInt/times {
				is(size*times-1, size, manyOf(size*times-1, size))
				is(size*times, size, times)
				is(size*times+1, size, manyOf(size*times+1, size))
			}
		}
	}
}

// P12.1: whole bundles of each length, cut at each size: fragments of them, byte by byte, or the bundle alone.
func TestSplit(t *testing.T) {
	for n := range 15 {
		for _, b := range wholes(n) {
			for size := 1; size < n; size++ {
				splits(t, b, size, piecesOf(b, size))
			}
			for _, size := range []int{max(n, 1), n + 1, n + 2, math.MaxInt - 1, math.MaxInt} {
				splits(t, b, size, []api.Bundle{b})
			}
		}
	}
}

// P12.1: what stands in the pieces, field by field.
func TestPieces(t *testing.T) {
	b := api.Bundle{P: api.Primary{Flags: 2 | 8, Crc: 2, Dest: me, Src: api.Eid{Scheme: 2, Node: 1}, Rep: nobody, Stamp: api.Stamp{Time: 5, Seq: 6}, Life: 7}, Blocks: []api.Block{{Type: 7, Number: 3, Crc: 1, Data: "x"}, {Type: 6, Number: 2}}, Payload: api.Block{Type: 1, Number: 1, Flags: 9, Crc: 1, Data: "abcdefg"}}
	l, e := frag.Split(b, 3)
	if e != api.OK || len(l) != 3 {
		t.Fatal(brief(l), e)
	}
	for i, x := range l {
		p := api.Primary{Flags: 1 | 2 | 8, Crc: 2, Dest: me, Src: api.Eid{Scheme: 2, Node: 1}, Rep: nobody, Stamp: api.Stamp{Time: 5, Seq: 6}, Life: 7, Offset: uint64(3 * i), Total: 7}
		if x.P != p || x.Payload != (api.Block{Type: 1, Number: 1, Flags: 9, Crc: 1, Data: []string{"abc", "def", "g"}[i]}) {
			t.Errorf("%d: %s", i, brief(x))
		}
		if want := []int{2, 0, 0}[i]; len(x.Blocks) != want {
			t.Errorf("%d: %d other blocks", i, len(x.Blocks))
		}
	}
}

// P12.1: what bundle.Check tells of a bundle that may not be, at whatever size.
func TestSplitOfWhatMayNotBe(t *testing.T) {
	for _, w := range wrongs() {
		for _, p := range []api.Primary{fronts()[0], fronts()[3], piece(fronts()[4], 5, 90), piece(fronts()[2], 5, 6)} {
			for _, n := range []int{0, 1, 40, 1026} {
				b := with(p, 2, n)
				w.make(&b)
				for _, size := range []int{math.MinInt, -1, 0, 1, 2, n, n + 1, math.MaxInt} {
					splitsNot(t, b, size, w.e)
				}
			}
		}
	}
	b := with(fronts()[0], 0, 9)
	b.P.Flags |= 4
	splitsNot(t, api.Bundle{P: piece(b.P, 0, 9), Payload: b.Payload}, 9, api.ErrForm)
}

// P12.1: sizes below 1, whatever else there would be to tell.
func TestSplitOfSizesBelowOne(t *testing.T) {
	for _, size := range []int{math.MinInt, math.MinInt + 1, -1 << 32, -2, -1, 0} {
		for _, n := range []int{0, 1, 2, 1024, 1025, api.MaxText} {
			for _, b := range []api.Bundle{with(fronts()[1], 3, n), with(piece(fronts()[1], 5, 6), 0, n), with(piece(fronts()[1], 0, greatest), 0, n)} {
				splitsNot(t, b, size, api.ErrRange)
			}
			b := with(fronts()[0], 1, n)
			b.P.Flags |= 4
			splitsNot(t, b, size, api.ErrRange)
		}
	}
}

// P12.1: up to 1024 pieces, and no more; what is too many is told ahead of what can't be cut.
func TestSplitIntoVeryMany(t *testing.T) {
	for _, c := range []struct{ n, size, many int }{
		{1023, 1, 1023}, {1024, 1, 1024}, {1025, 1, 0}, {2047, 2, 1024}, {2048, 2, 1024}, {2049, 2, 0}, {1026, 2, 513}, {3072, 3, 1024}, {3073, 3, 0},
		{api.MaxText - 1, 64, 1024}, {api.MaxText, 64, 1024}, {api.MaxText, 65, 1009}, {api.MaxText, 63, 0}, {api.MaxText, 1, 0}, {api.MaxText, 1 << 15, 2}, {api.MaxText, api.MaxText - 1, 2}, {65473, 64, 1024}, {65472, 64, 1023},
	} {
		whole := with(fronts()[4], 3, c.n)
		flagged := with(fronts()[0], 0, c.n)
		flagged.P.Flags |= 4
		inside := with(piece(fronts()[0], 9, greatest), 1, c.n)
		beyond := with(piece(fronts()[0], 9, uint64(c.n)+8), 1, c.n)
		if c.many == 0 {
			for _, b := range []api.Bundle{whole, flagged, inside, beyond} {
				splitsNot(t, b, c.size, api.ErrBig)
			}
			continue
		}
		want := piecesOf(whole, c.size)
		if len(want) != c.many {
			t.Errorf("%d bytes, of size %d: %d pieces, not %d", c.n, c.size, len(want), c.many)
		}
		splits(t, whole, c.size, want)
		splits(t, inside, c.size, piecesOf(inside, c.size))
		splitsNot(t, flagged, c.size, api.ErrForm)
		splitsNot(t, beyond, c.size, api.ErrArg)
	}
	b := with(fronts()[4], 3, api.MaxText)
	for _, size := range []int{api.MaxText, api.MaxText + 1, math.MaxInt} {
		splits(t, b, size, []api.Bundle{b})
	}
}

// P12.1: bundles whose flags have the bit of value 4, somebody's and nobody's: alone, where one piece is enough, else ErrForm.
func TestSplitOfWhatMayNotBeSplit(t *testing.T) {
	for i, p := range fronts() {
		p.Flags |= 4
		if i%2 == 0 {
			p.Src = nobody
		}
		for n := range 8 {
			b := with(p, i, n)
			for size := 1; size < n; size++ {
				splitsNot(t, b, size, api.ErrForm)
			}
			for _, size := range []int{max(n, 1), n + 1, math.MaxInt} {
				splits(t, b, size, []api.Bundle{b})
			}
		}
	}
}

// P12.1: each other bit of the flags cuts nothing short, and stays.
func TestSplitOfEachFlag(t *testing.T) {
	for bit := range 21 {
		b := with(fronts()[2], 1, 5)
		b.P.Flags = 1 << bit
		switch bit {
		case 0:
			b.P.Total = 5
			splits(t, b, 2, piecesOf(b, 2))
		case 2:
			splitsNot(t, b, 2, api.ErrForm)
		default:
			splits(t, b, 2, piecesOf(b, 2))
		}
	}
}

// P12.1: fragments that end ahead of their Total, at it, and beyond it, where Offset and the length leave a number's range, too: cut, or ErrArg, or, if one piece is enough, alone.
func TestSplitOfFragments(t *testing.T) {
	for _, total := range []uint64{1, 2, 5, 9, 10, 11, 256, 65536, 1 << 32, 1 << 63, greatest - 1, greatest} {
		for _, room := range []uint64{1, 2, 3, 6, 7, 8, 9, 10, 255, total} {
			if room > total {
				continue
			}
			for n := range 12 {
				b := with(piece(fronts()[n%6], total-room, total), n%4, n)
				for size := 1; size < n; size++ {
					if uint64(n) > room {
						splitsNot(t, b, size, api.ErrArg)
					} else {
						splits(t, b, size, piecesOf(b, size))
					}
				}
				for _, size := range []int{max(n, 1), n + 1, math.MaxInt} {
					splits(t, b, size, []api.Bundle{b})
				}
			}
		}
	}
	for _, total := range []uint64{1, 1000, greatest} {
		b := with(piece(fronts()[0], total-1, total), 2, api.MaxText)
		splitsNot(t, b, 64, api.ErrArg)
		splitsNot(t, b, 63, api.ErrBig)
		splits(t, b, api.MaxText, []api.Bundle{b})
	}
}

// P12.1: fragments of fragments of fragments: Offset goes on, Total stays, other blocks stand in the first one of all alone.
func TestFragmentsOfFragments(t *testing.T) {
	for _, b := range wholes(60) {
		seen := ""
		for i, x := range must(t, b, 25) {
			splits(t, x, 7, piecesOf(x, 7))
			for j, y := range must(t, x, 7) {
				splits(t, y, 2, piecesOf(y, 2))
				for k, z := range must(t, y, 2) {
					if z.P != piece(b.P, uint64(25*i+7*j+2*k), 60) || len(z.Blocks) > 0 != (i+j+k == 0 && len(b.Blocks) > 0) {
						t.Errorf("%s: %d %d %d: %s", brief(b), i, j, k, brief(z))
					}
					seen += z.Payload.Data
				}
			}
		}
		if seen != b.Payload.Data {
			t.Errorf("%s: %q", brief(b), seen)
		}
	}
}

// must are the pieces of a bundle that can be cut.
func must(t *testing.T, b api.Bundle, size int) []api.Bundle {
	t.Helper()
	l, e := frag.Split(b, size)
	if e != api.OK {
		t.Fatalf("Split(%s, %d): %d", brief(b), size, e)
	}
	return l
}
