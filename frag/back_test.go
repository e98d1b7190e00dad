package frag_test

import (
	"math"
	"slices"
	"testing"

	"wagtail/api"
)

// P12.4: bundles of all kinds, cut at each size, in whatever order, are the bundle again.
func TestThereAndBack(t *testing.T) {
	for _, n := range []int{0, 1, 2, 3, 4, 5, 6, 11} {
		for _, b := range wholes(n) {
			for _, size := range []int{1, 2, 3, 4, 5, 6, 10, 11, 12, math.MaxInt} {
				for _, order := range orders(must(t, b, size)) {
					joins(t, order, b)
				}
			}
		}
	}
}

// P12.4: bundles that may not be cut, and need not be, are themselves again.
func TestThereAndBackAlone(t *testing.T) {
	for _, p := range fronts() {
		p.Flags |= 4
		for _, n := range []int{0, 1, 9} {
			b := with(p, 3, n)
			joins(t, must(t, b, 9), b)
			b.P.Src, b.P.Flags = nobody, 4
			joins(t, must(t, b, math.MaxInt), b)
		}
	}
}

// P12.4: up to 1024 pieces, of up to as many bytes as there may be.
func TestThereAndBackOfVeryMany(t *testing.T) {
	for _, c := range [][2]int{{1024, 1}, {1023, 1}, {2047, 2}, {api.MaxText, 64}, {api.MaxText - 1, 64}, {api.MaxText, 65}, {api.MaxText, 1000}, {api.MaxText, api.MaxText - 1}, {api.MaxText, api.MaxText}} {
		for _, b := range []api.Bundle{with(fronts()[3], 16, c[0]), with(fronts()[4], 0, c[0])} {
			for _, order := range orders(must(t, b, c[1])) {
				joins(t, order, b)
			}
		}
	}
}

// P12.4: pieces that were split again, all of them or some, and again, and those that they are of beside them.
func TestThereAndBackAgain(t *testing.T) {
	for _, b := range wholes(30) {
		first := must(t, b, 11)
		var second, third, mixed []api.Bundle
		for i, x := range first {
			l := must(t, x, 4)
			second = append(second, l...)
			if i == 1 {
				mixed = append(mixed, l...)
			} else {
				mixed = append(mixed, x)
			}
			for _, y := range l {
				third = append(third, must(t, y, 1)...)
			}
		}
		if len(second) != 8 || len(third) != 30 {
			t.Error(len(second), len(third))
		}
		for _, l := range [][]api.Bundle{second, third, mixed, slices.Concat(first, second, third), slices.Concat(third, must(t, b, 7), must(t, b, 29))} {
			for _, order := range orders(l) {
				joins(t, order, b)
			}
		}
		for at := range third {
			joinsNot(t, slices.Delete(slices.Clone(third), at, at+1), api.ErrNone)
		}
	}
}

// P12.4: pieces of a fragment go not together again by themselves, unless it is all; with what it lacks they do.
func TestPiecesOfAFragment(t *testing.T) {
	for _, b := range wholes(12) {
		l := must(t, b, 5)
		for at, x := range l {
			parts := must(t, x, 2)
			for _, order := range orders(parts) {
				joinsNot(t, order, api.ErrNone)
			}
			for _, order := range orders(slices.Concat(parts, l[:at], l[at+1:])) {
				joins(t, order, b)
			}
		}
		all := b
		all.P = piece(b.P, 0, 12)
		for _, order := range orders(must(t, all, 5)) {
			joins(t, order, b)
		}
	}
}
