package latest_test

import (
	"math"
	"slices"
	"testing"

	"wagtail/api"
	"wagtail/latest"
)

// holdsHighest holds that this is the highest batch.
func holdsHighest(t *testing.T, l []api.Found, want uint64) {
	t.Helper()
	if got, is := latest.Highest(l); got != want || !is {
		t.Errorf("Highest(%v) = %d, %t, not %d", l, got, is, want)
	}
}

// holdsBroken holds whether the highest batch is broken.
func holdsBroken(t *testing.T, l []api.Found, want bool) {
	t.Helper()
	if got := latest.Broken(l); got != want {
		t.Errorf("Broken(%v) = %t", l, got)
	}
}

// holdsOpening holds that this is the greatest opening.
func holdsOpening(t *testing.T, l []api.Found, want uint64) {
	t.Helper()
	if got := latest.Opening(l); got != want {
		t.Errorf("Opening(%v) = %d, not %d", l, got, want)
	}
}

// opened is a find of an opening.
func opened(open uint64) api.Found {
	return put(0, 3, open, 2, 0)
}

// P19.1: of no finds there is no highest batch, none is broken, and the greatest Open is 0.
func TestOfNoFinds(t *testing.T) {
	for _, l := range [][]api.Found{nil, {}} {
		if batch, is := latest.Highest(l); batch != 0 || is {
			t.Errorf("Highest: %d, %t", batch, is)
		}
		holdsBroken(t, l, false)
		holdsOpening(t, l, 0)
	}
}

// P19.1: of one find its Batch is the highest one, 0 and the greatest number, too.
func TestHighestOfOne(t *testing.T) {
	for _, batch := range longs() {
		holdsHighest(t, []api.Found{part(batch, 0, 1)}, batch)
		holdsHighest(t, []api.Found{part(batch, 0, 2)}, batch)
		holdsHighest(t, []api.Found{{H: api.Head{Batch: batch}}}, batch)
	}
}

// P19.1: the highest batch of several, in each order, and the same one twice.
func TestHighestOfSeveral(t *testing.T) {
	a, b, c, d := part(4, 0, 1), part(9, 0, 3), part(7, 1, 2), part(0, 0, 1)
	for _, l := range orders([]api.Found{a, b, c, d}) {
		holdsHighest(t, l, 9)
		holdsHighest(t, append(l, l...), 9)
	}
	holdsHighest(t, []api.Found{a, a}, 4)
	holdsHighest(t, []api.Found{d, d}, 0)
	holdsHighest(t, []api.Found{a, d, a}, 4)
}

// P19.1: each two numbers of batches, whichever stands first.
func TestHighestOfEachTwo(t *testing.T) {
	for i, a := range longs() {
		for k, b := range longs() {
			holdsHighest(t, []api.Found{part(a, 0, 1), part(b, 0, 1)}, longs()[max(i, k)])
		}
	}
}

// P19.1: nothing but Batch tells which one is the highest.
func TestHighestOfBatchAlone(t *testing.T) {
	far := api.Found{At: at(math.MaxInt, math.MaxInt), H: api.Head{Kind: math.MaxInt, Index: math.MaxInt, Count: math.MaxInt, Open: math.MaxUint64, Lpn: math.MaxInt, Len: math.MaxInt}}
	holdsHighest(t, []api.Found{far, part(1, 0, 1), far}, 1)
	holdsHighest(t, []api.Found{far}, 0)
}

// P19.1: the highest batch is broken, if its last page is missing; whole, without one of the others, its last page alone, and of several last pages it is not.
func TestBroken(t *testing.T) {
	a, b, c := part(5, 0, 3), part(5, 1, 3), part(5, 2, 3)
	for _, l := range [][]api.Found{{a, b, c}, {c}, {a, c}, {b, c}, {c, c}, {a, a, c, c}, {a, b, c, c}} {
		for _, other := range orders(l) {
			holdsBroken(t, other, false)
		}
	}
	for _, l := range [][]api.Found{{a}, {b}, {a, b}, {a, a}, {b, a, b}} {
		for _, other := range orders(l) {
			holdsBroken(t, other, true)
		}
	}
	holdsBroken(t, []api.Found{part(5, 0, 1)}, false)
}

// P19.1: last pages of lesser batches are no end of the highest one, and it has an end, whether lesser ones have one or not.
func TestBrokenIsOfTheHighestAlone(t *testing.T) {
	for _, l := range orders([]api.Found{part(6, 0, 2), part(5, 0, 2), part(5, 1, 2), part(4, 0, 1)}) {
		holdsBroken(t, l, true)
	}
	for _, l := range orders([]api.Found{part(6, 1, 2), part(5, 0, 2), part(4, 0, 2), part(4, 0, 9)}) {
		holdsBroken(t, l, false)
	}
	for i, a := range longs() {
		for k, b := range longs() {
			holdsBroken(t, []api.Found{part(a, 0, 1), part(b, 0, 2)}, i < k)
			holdsBroken(t, []api.Found{part(b, 0, 2), part(a, 0, 1)}, i < k)
		}
	}
}

// P19.1: of one find, of each Index and Count at the ends of int: Count less 1 goes round.
func TestBrokenOfEachIndexAndCount(t *testing.T) {
	for _, n := range []struct{ index, count int }{{-1, 0}, {math.MaxInt, math.MinInt}, {math.MinInt, math.MinInt + 1}, {math.MaxInt - 1, math.MaxInt}, {-2, -1}, {0, 1}, {15, 16}} {
		holdsBroken(t, []api.Found{part(0, n.index, n.count)}, false)
	}
	for _, n := range []struct{ index, count int }{{0, 0}, {1, 0}, {1, 1}, {2, 1}, {math.MinInt, math.MinInt}, {math.MinInt, math.MaxInt}, {math.MaxInt, math.MaxInt}, {math.MaxInt, 0}, {math.MinInt, 0}, {0, -1}, {-1, 1}, {16, 16}} {
		holdsBroken(t, []api.Found{part(0, n.index, n.count)}, true)
	}
	for _, index := range ends() {
		for _, count := range ends() {
			for _, batch := range longs() {
				f := part(batch, index, count)
				holdsBroken(t, []api.Found{f}, !last(f))
			}
		}
	}
}

// P19.1: of finds of a batch whose Counts differ, each one's Index is held against its own.
func TestBrokenOfCountsThatDiffer(t *testing.T) {
	for _, l := range orders([]api.Found{part(3, 0, 2), part(3, 1, 3), part(3, 2, 1)}) {
		holdsBroken(t, l, true)
	}
	for _, l := range orders([]api.Found{part(3, 0, 2), part(3, 1, 3), part(3, 4, 5)}) {
		holdsBroken(t, l, false)
	}
}

// P19.1: the greatest Open, of one find, and of several, whatever their batches are.
func TestOpening(t *testing.T) {
	for i, a := range longs() {
		holdsOpening(t, []api.Found{opened(a)}, a)
		for k, b := range longs() {
			holdsOpening(t, []api.Found{opened(a), opened(b)}, longs()[max(i, k)])
			holdsOpening(t, []api.Found{opened(a), opened(b), opened(a)}, longs()[max(i, k)])
		}
	}
	holdsOpening(t, []api.Found{opened(0), opened(0)}, 0)
	for _, l := range orders([]api.Found{put(0, 9, 4, 2, 0), torn(put(1, 10, 3, 3, 1)), put(5, 1, 8, 4, 4), put(5, 2, 0, 1, 1)}) {
		holdsOpening(t, l, 8)
	}
	// A page of a broken batch, and of a kind that none has, has an opening, too.
	holdsOpening(t, []api.Found{put(0, 1, 4, 2, 0), torn(put(1, 2, 5, 2, 1))}, 5)
	holdsOpening(t, []api.Found{kind(opened(7), -3), opened(6)}, 7)
}

// P19.1: many finds, of which one, wherever it stands, is of the highest batch, with its end, or of the greatest Open.
func TestHighestWhereverItStands(t *testing.T) {
	l := slices.Repeat([]api.Found{part(3, 0, 4)}, 50)
	for i := range l {
		other := slices.Clone(l)
		other[i] = part(4, 3, 4)
		other[i].H.Open = 2
		holdsHighest(t, other, 4)
		holdsOpening(t, other, 2)
		holdsBroken(t, other, false)
		other[i].H.Batch = 3
		holdsBroken(t, other, false)
		other[i].H.Batch = 2
		holdsBroken(t, other, true)
	}
}
