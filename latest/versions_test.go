package latest_test

import (
	"math"
	"slices"
	"testing"

	"wagtail/api"
)

// P19.3: of no finds there is no version, whatever is void.
func TestVersionsOfNoFinds(t *testing.T) {
	for _, void := range [][]uint64{nil, {}, {0}, longs()} {
		holdsVersions(t, nil, void)
		holdsVersions(t, []api.Found{}, void)
	}
}

// P19.3: one find, whatever its numbers, is its logical page's version, if it is the last one of its batch.
func TestVersionsOfOneFind(t *testing.T) {
	holdsVersions(t, []api.Found{put(7, 1, 1, 5, 3)}, nil, has(7, api.KData, at(5, 3)))
	holdsVersions(t, []api.Found{put(7, 0, 0, 0, 0)}, nil, has(7, api.KData, at(0, 0)))
	holdsVersions(t, []api.Found{torn(put(7, 1, 1, 5, 3))}, nil)
	holdsVersions(t, []api.Found{{}}, nil)
	holdsVersions(t, []api.Found{{H: api.Head{Index: -1}}}, nil, has(0, 0, at(0, 0)))
	for _, n := range ends() {
		for _, batch := range longs() {
			f := kind(put(n, batch, math.MaxUint64-batch, n, n), n)
			holdsVersions(t, []api.Found{f}, nil, has(n, n, at(n, n)))
			holdsVersions(t, []api.Found{f}, []uint64{batch})
			holdsVersions(t, []api.Found{torn(f)}, nil)
		}
	}
}

// P19.3: of a batch of several pages each one is a version, rising by Lpn, whatever their order.
func TestVersionsOfOneBatch(t *testing.T) {
	var l []api.Found
	for i, lpn := range []int{9, 2, 64, 0} {
		l = append(l, api.Found{At: at(4, i), H: api.Head{Kind: 2 + i, Index: i, Count: 4, Batch: 3, Open: 6, Lpn: lpn}})
	}
	want := []api.Copies{has(0, 5, at(4, 3)), has(2, 3, at(4, 1)), has(9, 2, at(4, 0)), has(64, 4, at(4, 2))}
	for _, other := range orders(l) {
		holdsVersions(t, other, nil, want...)
		holdsVersions(t, other, []uint64{3})
	}
	// Without its last page nothing of it counts; its last page alone is enough.
	for _, other := range orders(l[:3]) {
		holdsVersions(t, other, nil)
	}
	holdsVersions(t, l[3:], nil, want[0])
}

// P19.3: many logical pages, negative ones and the ends of int, too, rise, whatever order they come in.
func TestVersionsRise(t *testing.T) {
	var l []api.Found
	var want []api.Copies
	for i, lpn := range ends() {
		l = append(l, put(lpn, 1, 1, 2, i))
		want = append(want, has(lpn, api.KData, at(2, i)))
	}
	for range len(l) {
		holdsVersions(t, l, nil, want...)
		slices.Reverse(l)
		holdsVersions(t, l, nil, want...)
		slices.Reverse(l)
		l = append(l[1:len(l):len(l)], l[0])
	}
	x := dice(3)
	for range 200 {
		i, k := x.below(len(l)), x.below(len(l))
		l[i], l[k] = l[k], l[i]
		holdsVersions(t, l, nil, want...)
	}
}

// P19.3, example 1: of batch 1, whole, and of batch 2, without its last page, the versions are those of batch 1.
func TestVersionsOfABatchThatWasCut(t *testing.T) {
	a, b := part(1, 0, 2), part(1, 1, 2)
	c, d := part(2, 0, 2), part(2, 1, 2)
	a.At, b.At, c.At, d.At = at(2, 0), at(2, 1), at(2, 2), at(2, 3)
	b.H.Lpn, d.H.Lpn = 1, 1
	for _, l := range orders([]api.Found{a, b, c}) {
		holdsVersions(t, l, nil, has(0, api.KData, at(2, 0)), has(1, api.KData, at(2, 1)))
	}
	for _, l := range orders([]api.Found{a, b, c, d}) {
		holdsVersions(t, l, nil, has(0, api.KData, at(2, 2)), has(1, api.KData, at(2, 3)))
		holdsVersions(t, l, []uint64{2}, has(0, api.KData, at(2, 0)), has(1, api.KData, at(2, 1)))
		holdsVersions(t, l, []uint64{1}, has(0, api.KData, at(2, 2)), has(1, api.KData, at(2, 3)))
		holdsVersions(t, l, []uint64{1, 2})
	}
	// The last page, if it alone is there, is its logical page's version; the other one's is of batch 1.
	for _, l := range orders([]api.Found{a, b, d}) {
		holdsVersions(t, l, nil, has(0, api.KData, at(2, 0)), has(1, api.KData, at(2, 3)))
	}
}

// P19.3: a highest batch that is broken, alone, has no version; nor have finds whose batches are all void.
func TestVersionsOfNothingThatCounts(t *testing.T) {
	for _, l := range orders([]api.Found{torn(put(0, 5, 1, 2, 0)), torn(put(1, 5, 1, 2, 1)), torn(put(0, 5, 2, 2, 2))}) {
		holdsVersions(t, l, nil)
		holdsVersions(t, l, []uint64{5})
		holdsVersions(t, l, []uint64{4, 6})
	}
	for _, void := range orders([]uint64{1, 5, 0, math.MaxUint64}) {
		holdsVersions(t, []api.Found{put(0, 5, 1, 2, 0), put(1, 1, 1, 2, 1), put(2, 0, 1, 2, 2), put(0, math.MaxUint64, 1, 2, 3)}, void)
		holdsVersions(t, []api.Found{put(0, 5, 1, 2, 0), put(1, 1, 1, 2, 1), put(2, 0, 1, 2, 2), torn(put(0, 6, 1, 2, 3))}, void)
	}
}

// P19.3: of each logical page its own greatest batch counts, whether others have greater ones or not.
func TestVersionsOfEachOfItsOwnBatch(t *testing.T) {
	l := []api.Found{put(0, 9, 1, 2, 0), put(1, 3, 1, 2, 1), put(1, 4, 1, 2, 2), put(2, 0, 1, 2, 3), put(3, 7, 1, 3, 0), put(3, 1<<63, 1, 3, 1)}
	for _, other := range orders(l) {
		holdsVersions(t, other, nil, has(0, 3, at(2, 0)), has(1, 3, at(2, 2)), has(2, 3, at(2, 3)), has(3, 3, at(3, 1)))
		holdsVersions(t, other, []uint64{1 << 63, 4, 9}, has(1, 3, at(2, 1)), has(2, 3, at(2, 3)), has(3, 3, at(3, 0)))
		holdsVersions(t, other, []uint64{0, 3}, has(0, 3, at(2, 0)), has(1, 3, at(2, 2)), has(3, 3, at(3, 1)))
	}
}

// P19.3: each two numbers of batches: the greater one counts, 0 and the greatest number, too.
func TestVersionsOfEachTwoBatches(t *testing.T) {
	for i, a := range longs() {
		for k, b := range longs() {
			if i >= k {
				continue
			}
			for _, l := range orders([]api.Found{put(6, a, 9, 2, 0), put(6, b, 1, 3, 0)}) {
				holdsVersions(t, l, nil, has(6, 3, at(3, 0)))
				holdsVersions(t, l, []uint64{b}, has(6, 3, at(2, 0)))
				holdsVersions(t, l, []uint64{a}, has(6, 3, at(3, 0)))
			}
			for _, l := range orders([]api.Found{put(6, a, 9, 2, 0), torn(put(6, b, 1, 3, 0))}) {
				holdsVersions(t, l, nil, has(6, 3, at(2, 0)))
				holdsVersions(t, l, []uint64{a})
			}
		}
	}
}

// P19.3: batch 0 counts as any other: void, or broken, it has no version, also where nothing else is there.
func TestVersionsOfBatchNought(t *testing.T) {
	holdsVersions(t, []api.Found{put(4, 0, 1, 2, 0), put(5, 0, 1, 2, 1)}, nil, has(4, 3, at(2, 0)), has(5, 3, at(2, 1)))
	holdsVersions(t, []api.Found{put(4, 0, 1, 2, 0), put(5, 1, 1, 2, 1)}, []uint64{0}, has(5, 3, at(2, 1)))
	holdsVersions(t, []api.Found{put(4, 0, 1, 2, 0), put(4, 1, 1, 2, 1)}, []uint64{0, 1})
	holdsVersions(t, []api.Found{put(4, 0, 1, 2, 0), put(4, 1, 1, 2, 1)}, []uint64{1}, has(4, 3, at(2, 0)))
	// Finds of lesser batches without an end count: the highest one alone may be broken.
	holdsVersions(t, []api.Found{torn(put(4, 0, 1, 2, 0)), put(5, 1, 1, 2, 1)}, nil, has(4, 3, at(2, 0)), has(5, 3, at(2, 1)))
}

// P19.3: copies of a version: of greater Open first, of the same Open by Block, then by Page, whatever order they come in.
func TestVersionsOfSeveralCopies(t *testing.T) {
	l := []api.Found{put(3, 2, 9, 7, 7), put(3, 2, 4, 2, 6), put(3, 2, 4, 5, 0), put(3, 2, 4, 5, 1), put(3, 2, 0, 1, 0)}
	want := has(3, 3, at(7, 7), at(2, 6), at(5, 0), at(5, 1), at(1, 0))
	for _, other := range orders(l) {
		holdsVersions(t, other, nil, want)
	}
}

// P19.3: copies whose Opens, Blocks and Pages are at the ends of their types.
func TestVersionsOfCopiesAtTheEnds(t *testing.T) {
	var opens, blocks, pages []api.Found
	var opened, blocked, paged []api.Place
	for i, n := range longs() {
		opens = append(opens, put(3, 2, n, i, i))
		opened = slices.Insert(opened, 0, at(i, i))
	}
	for i, n := range ends() {
		blocks = append(blocks, put(3, 2, 5, n, -i))
		blocked = append(blocked, at(n, -i))
		pages = append(pages, put(3, 2, 5, 6, n))
		paged = append(paged, at(6, n))
	}
	x := dice(5)
	for range 200 {
		for _, l := range [][]api.Found{opens, blocks, pages} {
			i, k := x.below(len(l)), x.below(len(l))
			l[i], l[k] = l[k], l[i]
		}
		holdsVersions(t, opens, nil, has(3, 3, opened...))
		holdsVersions(t, blocks, nil, has(3, 3, blocked...))
		holdsVersions(t, pages, nil, has(3, 3, paged...))
	}
}

// P19.3: the Kind is that of the first place, whichever one stands first in what is handed in.
func TestVersionsOfKindsThatDiffer(t *testing.T) {
	l := []api.Found{kind(put(3, 2, 9, 7, 7), api.KMeta), kind(put(3, 2, 4, 2, 6), api.KNone), kind(put(3, 2, 4, 5, 0), api.KSuper), kind(put(3, 1, 99, 0, 0), api.KTable)}
	for _, other := range orders(l) {
		holdsVersions(t, other, nil, has(3, api.KMeta, at(7, 7), at(2, 6), at(5, 0)))
		holdsVersions(t, other, []uint64{2}, has(3, api.KTable, at(0, 0)))
	}
	for _, other := range orders(l[1:3]) {
		holdsVersions(t, other, nil, has(3, api.KNone, at(2, 6), at(5, 0)))
	}
	for _, n := range ends() {
		for _, other := range orders([]api.Found{kind(put(3, 2, 4, 5, 1), 3), kind(put(3, 2, 4, 5, 0), n), put(3, 2, 3, 0, 0)}) {
			holdsVersions(t, other, nil, has(3, n, at(5, 0), at(5, 1), at(0, 0)))
		}
	}
}

// P19.3: each find of a version has its place there: the same find twice has it twice, and finds of one place, but of other Opens, too.
func TestVersionsOfTheSameTwice(t *testing.T) {
	a, b := put(3, 2, 4, 5, 0), put(3, 2, 4, 5, 1)
	holdsVersions(t, []api.Found{a, a}, nil, has(3, 3, at(5, 0), at(5, 0)))
	for _, l := range orders([]api.Found{b, a, b, a}) {
		holdsVersions(t, l, nil, has(3, 3, at(5, 0), at(5, 0), at(5, 1), at(5, 1)))
	}
	for _, l := range orders([]api.Found{a, put(3, 2, 7, 5, 0), b}) {
		holdsVersions(t, l, nil, has(3, 3, at(5, 0), at(5, 0), at(5, 1)))
	}
}

// P19.3, R6: of finds of the same Open and place the one that is listed first is the first one: its Kind counts.
func TestVersionsOfTheSamePlace(t *testing.T) {
	for many := 2; many < 40; many += 9 {
		for first := api.KNone; first <= api.KSuper; first++ {
			l := []api.Found{put(3, 2, 4, 5, 1)}
			want := []api.Place{}
			for i := range many {
				l = append(l, kind(put(3, 2, 4, 5, 0), 2+(first-2+i)%4))
				want = append(want, at(5, 0))
			}
			holdsVersions(t, l, nil, has(3, first, append(want, at(5, 1))...))
		}
	}
}

// P19.3: a copy of a lesser batch is none of the version's, whatever its Open, and its place, are.
func TestVersionsOfACopyOfALesserBatch(t *testing.T) {
	a, b, c := put(3, 5, 1, 9, 9), put(3, 5, 2, 9, 8), put(3, 4, 99, 0, 0)
	for _, l := range orders([]api.Found{a, b, c, put(3, 4, 1, 9, 9)}) {
		holdsVersions(t, l, nil, has(3, 3, at(9, 8), at(9, 9)))
		holdsVersions(t, l, []uint64{5}, has(3, 3, at(0, 0), at(9, 9)))
	}
}
