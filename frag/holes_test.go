package frag_test

import (
	"cmp"
	"math"
	"slices"
	"testing"

	"wagtail/api"
	"wagtail/frag"
)

// bytesAt is a fragment of so many bytes at a place.
func bytesAt(offset uint64, n int) api.Bundle {
	return api.Bundle{P: api.Primary{Flags: 1, Crc: 1, Dest: me, Src: me, Rep: me, Offset: offset, Total: greatest}, Payload: api.Block{Type: 1, Number: 1, Data: data(n)}}
}

// holesOf are the holes, told place by place: at places where something may begin or end each fragment is asked whether it has that byte.
func holesOf(total uint64, l []api.Bundle) [][2]uint64 {
	has := func(place uint64) bool {
		return slices.ContainsFunc(l, func(b api.Bundle) bool {
			return place >= b.P.Offset && place-b.P.Offset < uint64(len(b.Payload.Data))
		})
	}
	places := []uint64{0, total}
	for _, b := range l {
		places = append(places, min(b.P.Offset, total))
		if room := total - min(b.P.Offset, total); uint64(len(b.Payload.Data)) < room {
			places = append(places, b.P.Offset+uint64(len(b.Payload.Data)))
		}
	}
	slices.Sort(places)
	var holes [][2]uint64
	for i, place := range places[1:] {
		from := places[i]
		switch {
		case from == place || has(from):
		case len(holes) > 0 && holes[len(holes)-1][1] == from:
			holes[len(holes)-1][1] = place
		default:
			holes = append(holes, [2]uint64{from, place})
		}
	}
	return holes
}

// haveHoles looks at which bytes are in none of some fragments.
func haveHoles(t *testing.T, total uint64, l []api.Bundle, want ...[2]uint64) {
	t.Helper()
	if got := frag.Holes(total, l...); !slices.Equal(got, want) {
		t.Errorf("Holes(%d, %s) = %d, not %d", total, brief(l), got, want)
	}
}

// P12.2: holes of none, ahead of, between and behind fragments, that touch, that lie over one another, that are the same, that have nothing, at total, behind it, beyond it.
func TestHoles(t *testing.T) {
	type holes = [][2]uint64
	for _, c := range []struct {
		total uint64
		l     []api.Bundle
		want  holes
	}{
		{0, nil, nil}, {1, nil, holes{{0, 1}}}, {9, nil, holes{{0, 9}}}, {greatest, nil, holes{{0, greatest}}},
		{0, []api.Bundle{bytesAt(0, 0)}, nil}, {0, []api.Bundle{bytesAt(0, 5)}, nil}, {0, []api.Bundle{bytesAt(5, 5)}, nil},
		{9, []api.Bundle{bytesAt(0, 9)}, nil}, {9, []api.Bundle{bytesAt(0, 8)}, holes{{8, 9}}}, {9, []api.Bundle{bytesAt(0, 10)}, nil}, {9, []api.Bundle{bytesAt(1, 8)}, holes{{0, 1}}}, {9, []api.Bundle{bytesAt(1, 7)}, holes{{0, 1}, {8, 9}}},
		{9, []api.Bundle{bytesAt(3, 3)}, holes{{0, 3}, {6, 9}}}, {9, []api.Bundle{bytesAt(3, 3), bytesAt(3, 3)}, holes{{0, 3}, {6, 9}}}, {9, []api.Bundle{bytesAt(3, 3), bytesAt(3, 2), bytesAt(4, 2), bytesAt(4, 1)}, holes{{0, 3}, {6, 9}}},
		{9, []api.Bundle{bytesAt(0, 3), bytesAt(3, 3), bytesAt(6, 3)}, nil}, {9, []api.Bundle{bytesAt(0, 2), bytesAt(3, 2), bytesAt(6, 2)}, holes{{2, 3}, {5, 6}, {8, 9}}}, {9, []api.Bundle{bytesAt(0, 4), bytesAt(2, 4), bytesAt(5, 4)}, nil}, {9, []api.Bundle{bytesAt(0, 9), bytesAt(3, 3)}, nil}, {9, []api.Bundle{bytesAt(0, 8), bytesAt(3, 3)}, holes{{8, 9}}},
		{9, []api.Bundle{bytesAt(0, 0)}, holes{{0, 9}}}, {9, []api.Bundle{bytesAt(4, 0)}, holes{{0, 9}}}, {9, []api.Bundle{bytesAt(9, 0)}, holes{{0, 9}}}, {9, []api.Bundle{bytesAt(4, 0), bytesAt(2, 1), bytesAt(7, 0)}, holes{{0, 2}, {3, 9}}},
		{9, []api.Bundle{bytesAt(9, 5)}, holes{{0, 9}}}, {9, []api.Bundle{bytesAt(10, 5)}, holes{{0, 9}}}, {9, []api.Bundle{bytesAt(8, 5)}, holes{{0, 8}}}, {9, []api.Bundle{bytesAt(greatest, 5), bytesAt(2, 1)}, holes{{0, 2}, {3, 9}}},
		{greatest, []api.Bundle{bytesAt(greatest, 5)}, holes{{0, greatest}}}, {greatest, []api.Bundle{bytesAt(greatest-1, 1)}, holes{{0, greatest - 1}}}, {greatest, []api.Bundle{bytesAt(greatest-1, 2)}, holes{{0, greatest - 1}}}, {greatest, []api.Bundle{bytesAt(greatest-1, 5)}, holes{{0, greatest - 1}}},
		{greatest, []api.Bundle{bytesAt(greatest-5, 5)}, holes{{0, greatest - 5}}}, {greatest, []api.Bundle{bytesAt(greatest-6, 5), bytesAt(0, 2)}, holes{{2, greatest - 6}, {greatest - 1, greatest}}}, {greatest, []api.Bundle{bytesAt(1<<63, 1), bytesAt(1<<63-1, 1)}, holes{{0, 1<<63 - 1}, {1<<63 + 1, greatest}}},
	} {
		for _, l := range orders(c.l) {
			haveHoles(t, c.total, l, c.want...)
			haveHoles(t, c.total, l, holesOf(c.total, l)...)
		}
	}
}

// P12.2: each three fragments of up to five bytes, as far as each total, byte by byte.
func TestHolesOfThree(t *testing.T) {
	var some []api.Bundle
	for offset := range uint64(5) {
		for n := range 5 {
			some = append(some, bytesAt(offset, n))
		}
	}
	for total := range uint64(7) {
		for _, a := range some {
			for _, b := range some {
				for _, c := range some {
					var want [][2]uint64
					for place := range total {
						has := func(b api.Bundle) bool { return place >= b.P.Offset && place < b.P.Offset+uint64(len(b.Payload.Data)) }
						switch {
						case has(a) || has(b) || has(c):
						case len(want) > 0 && want[len(want)-1][1] == place:
							want[len(want)-1][1]++
						default:
							want = append(want, [2]uint64{place, place + 1})
						}
					}
					haveHoles(t, total, []api.Bundle{a, b, c}, want...)
				}
			}
		}
	}
}

// P12.2: as far as totals at the end of numbers, where Offset and the length leave their range.
func TestHolesAtTheEndOfNumbers(t *testing.T) {
	for _, total := range []uint64{greatest, greatest - 1, greatest - 4, 1 << 63, 1 << 32} {
		for _, a := range []uint64{0, 1, total - 6, total - 1, total, greatest - 7, greatest - 2, greatest - 1, greatest} {
			for _, b := range []uint64{0, 3, total - 8, total - 5, greatest - 9, greatest} {
				for _, n := range []int{0, 1, 2, 5, 7, 10, api.MaxText} {
					l := []api.Bundle{bytesAt(a, n), bytesAt(b, 4), bytesAt(a, 1)}
					haveHoles(t, total, l, holesOf(total, l)...)
				}
			}
		}
	}
}

// P12.2: bundles that are no fragments, that may not be, and of unlike bundles: Offset and the data's length count alone.
func TestHolesOfWhateverElse(t *testing.T) {
	haveHoles(t, 9, []api.Bundle{with(fronts()[0], 2, 5)}, [2]uint64{5, 9})
	haveHoles(t, 9, []api.Bundle{with(fronts()[0], 2, 5), with(fronts()[1], 0, 9)})
	haveHoles(t, 9, []api.Bundle{{}}, [2]uint64{0, 9})
	for offset := range uint64(11) {
		for n := range 11 {
			for _, p := range []api.Primary{{}, {Flags: 4}, {Flags: greatest, Crc: -1}, fronts()[0], piece(fronts()[1], 0, 1), {Flags: 1, Total: 3}} {
				p.Offset = offset
				l := []api.Bundle{{P: p, Payload: api.Block{Type: 9, Crc: math.MinInt, Data: data(n)}}, with(piece(fronts()[2], 3, 5), 17, 2)}
				haveHoles(t, 9, l, holesOf(9, l)...)
				l = append(l, api.Bundle{P: api.Primary{Offset: 7}, Blocks: []api.Block{{Data: "abc"}}})
				haveHoles(t, 9, l, holesOf(9, l)...)
			}
		}
	}
	long := api.Bundle{Payload: api.Block{Data: data(api.MaxText + 1)}}
	haveHoles(t, api.MaxText+3, []api.Bundle{long}, [2]uint64{api.MaxText + 1, api.MaxText + 3})
}

// P12.2, R1: of very many fragments, in whatever order, it ends soon.
func TestHolesOfVeryMany(t *testing.T) {
	const n = 1 << 16
	var l, same []api.Bundle
	var want [][2]uint64
	for i := range uint64(n) {
		l = append(l, bytesAt(4*i+1, 2))
		same = append(same, bytesAt(7, 3))
		if i > 0 {
			want = append(want, [2]uint64{4*i - 1, 4*i + 1})
		}
	}
	want = append([][2]uint64{{0, 1}}, append(want, [2]uint64{4*n - 1, 4 * n})...)
	haveHoles(t, 4*n, l, want...)
	for i := range l { // in steps, as no rising and no falling list has them
		j := i * 40503 % n
		l[i], l[j] = l[j], l[i]
	}
	haveHoles(t, 4*n, l, want...)
	slices.SortFunc(l, func(a, b api.Bundle) int { return cmp.Compare(b.P.Offset, a.P.Offset) })
	haveHoles(t, 4*n, l, want...)
	haveHoles(t, 99, same, [2]uint64{0, 7}, [2]uint64{10, 99})
	haveHoles(t, 5, make([]api.Bundle, 1<<20), [2]uint64{0, 5})
}
