package latest_test

import (
	"math"
	"testing"

	"wagtail/api"
)

// P19.2: of no finds no batch is told, whatever is void.
func TestVoidOfNoFinds(t *testing.T) {
	for _, void := range [][]uint64{nil, {}, {0}, {1, 2, 3}, longs()} {
		holdsVoid(t, nil, void)
		holdsVoid(t, []api.Found{}, void)
	}
}

// P19.2: without void batches none but the highest one is told, and that one if it is broken.
func TestVoidOfNoVoidBatches(t *testing.T) {
	for _, void := range [][]uint64{nil, {}} {
		for _, l := range orders([]api.Found{part(4, 0, 2), part(4, 1, 2), part(3, 0, 2), part(1, 0, 1)}) {
			holdsVoid(t, l, void)
		}
		for _, l := range orders([]api.Found{part(4, 0, 2), part(4, 0, 2), part(3, 0, 2), part(1, 0, 1)}) {
			holdsVoid(t, l, void, 4)
		}
	}
}

// P19.2: of one find, of each batch: told, if it is void, or broken.
func TestVoidOfOneFind(t *testing.T) {
	for _, batch := range longs() {
		for _, n := range longs() {
			whole, cut := []api.Found{part(batch, 0, 1)}, []api.Found{part(batch, 0, 2)}
			holdsVoid(t, cut, []uint64{n}, batch)
			if n == batch {
				holdsVoid(t, whole, []uint64{n}, batch)
			} else {
				holdsVoid(t, whole, []uint64{n})
			}
		}
		holdsVoid(t, []api.Found{part(batch, 0, 1)}, longs(), batch)
	}
}

// P19.2: void batches of which there are finds are told, rising, each once, and no others, in whatever order they are handed in, and the finds, too.
func TestVoidOfSeveral(t *testing.T) {
	finds := orders([]api.Found{part(9, 0, 1), part(7, 0, 2), part(7, 1, 2), part(0, 0, 1), part(math.MaxUint64, 0, 1)})
	for i, void := range orders([]uint64{7, 0, 8, math.MaxUint64 - 1, 7}) {
		holdsVoid(t, finds[i], void, 0, 7)
	}
	for i, void := range orders([]uint64{math.MaxUint64, 9, 0, 7, 1}) {
		holdsVoid(t, finds[i], void, 0, 7, 9, math.MaxUint64)
	}
	holdsVoid(t, finds[0], []uint64{1, 2, 8, 10, 1 << 63})
}

// P19.2: a void batch of which there are many finds is told once, and one that is void twice, too.
func TestVoidIsToldOnce(t *testing.T) {
	l := []api.Found{part(2, 0, 3), part(5, 0, 1), part(2, 1, 3), part(2, 2, 3), part(5, 0, 1), part(2, 0, 3), part(6, 0, 1)}
	holdsVoid(t, l, []uint64{2, 2}, 2)
	holdsVoid(t, l, []uint64{5, 2, 5, 2, 5}, 2, 5)
	holdsVoid(t, append(l, l...), []uint64{2, 5}, 2, 5)
}

// P19.2: the highest batch among the void ones is told once, broken or not; the next one below it may be without an end, and counts.
func TestVoidOfTheHighest(t *testing.T) {
	whole := []api.Found{part(3, 0, 1), part(8, 0, 2), part(8, 1, 2), part(5, 0, 2)}
	cut := []api.Found{part(3, 0, 1), part(8, 0, 2), part(8, 0, 2), part(5, 0, 2)}
	for i, l := range orders(whole) {
		holdsVoid(t, l, []uint64{8}, 8)
		holdsVoid(t, l, []uint64{8, 3, 8}, 3, 8)
		holdsVoid(t, l, []uint64{3}, 3)
		other := orders(cut)[i]
		holdsVoid(t, other, []uint64{8}, 8)
		holdsVoid(t, other, []uint64{3, 8}, 3, 8)
		holdsVoid(t, other, []uint64{8, 3, 8}, 3, 8)
		holdsVoid(t, other, []uint64{3}, 3, 8)
		holdsVoid(t, other, []uint64{9, 7, 4}, 8)
		holdsVoid(t, other, nil, 8)
	}
}

// P19.2: void batches above the highest one change not which one is the highest.
func TestVoidAboveTheHighest(t *testing.T) {
	l := []api.Found{part(3, 0, 2), part(2, 0, 1)}
	holdsVoid(t, l, []uint64{4, math.MaxUint64}, 3)
	holdsVoid(t, l, []uint64{2, 4}, 2, 3)
}

// P19.2: batch 0 counts as any other: told if it is void, or broken, and not else.
func TestVoidOfBatchNought(t *testing.T) {
	holdsVoid(t, []api.Found{part(0, 0, 1)}, nil)
	holdsVoid(t, []api.Found{part(0, 0, 2)}, nil, 0)
	holdsVoid(t, []api.Found{part(0, 0, 1)}, []uint64{0}, 0)
	holdsVoid(t, []api.Found{part(0, 0, 2), part(1, 0, 1)}, nil)
	holdsVoid(t, []api.Found{part(0, 0, 2), part(1, 0, 2)}, nil, 1)
	holdsVoid(t, []api.Found{part(0, 0, 2), part(1, 0, 2)}, []uint64{0}, 0, 1)
}

// P19.2: of all numbers of batches, each few of them void.
func TestVoidOfAllNumbers(t *testing.T) {
	var l []api.Found
	for i, batch := range longs() {
		l = append(l, part(batch, 0, 1+i%2))
	}
	for i := range longs() {
		for k := i + 1; k <= len(longs()); k++ {
			void := longs()[i:k]
			want := void
			if k < len(longs()) {
				want = append(void[:len(void):len(void)], math.MaxUint64)
			}
			holdsVoid(t, l, void, want...)
		}
	}
}
