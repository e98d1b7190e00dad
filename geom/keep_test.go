package geom_test

import (
	"math"
	"slices"
	"testing"

	"wagtail/api"
	"wagtail/geom"
)

// counters are the calls to which a list is handed in.
var counters = map[string]func(g api.Geom, bad []int) int{"Bad": geom.Bad, "Good": geom.Good, "Logical": geom.Logical, "Budget": geom.Budget}

// R3: a list that is handed in is not changed, its order and spare room neither.
func TestListsHandedInAreNotChanged(t *testing.T) {
	for _, g := range append(few(), api.Geom{}, dev(35, 8, 0)) {
		for _, was := range lists(dev(max(g.Blocks, 8), 0, 0)) {
			row := slices.Concat([]int{2}, was, []int{3, 2, 99, 2})
			l := row[1 : len(was)+1]
			for name, call := range counters {
				call(g, l)
				if !slices.Equal(l, was) || row[0] != 2 || !slices.Equal(row[len(was)+1:], []int{3, 2, 99, 2}) {
					t.Errorf("%s(%d, %d): became %d", name, g, was, row)
				}
			}
		}
	}
}

// R3: a list that is handed in is not kept: what it is later on changes no answer but to it.
func TestListsHandedInAreNotKept(t *testing.T) {
	for _, g := range few() {
		for name, call := range counters {
			l := []int{2, 3, 3}
			want := call(g, []int{2, 3, 3})
			first := call(g, l)
			clear(l)
			none := call(g, l)
			if again := call(g, []int{2, 3, 3}); first != want || again != want || none != call(g, nil) {
				t.Errorf("%s(%d): %d, then %d, and %d of none", name, g, first, again, none)
			}
			copy(l, []int{4, 5, 6})
			if got := call(g, l); got != call(g, []int{6, 5, 4}) {
				t.Errorf("%s(%d, %d) = %d", name, g, l, got)
			}
		}
	}
}

// R3: a list without an element, nil or empty, and what stands in spare room, count for nothing.
func TestNilAndEmpty(t *testing.T) {
	roomy := []int{5, 6, 7}
	for _, g := range few() {
		for name, call := range counters {
			want := call(g, nil)
			for _, l := range [][]int{{}, roomy[:0], make([]int, 0, 50)} {
				if got := call(g, l); got != want {
					t.Errorf("%s(%d) = %d of an empty list, %d of nil", name, g, got, want)
				}
			}
			if got, one := call(g, roomy[:1]), call(g, []int{5}); got != one {
				t.Errorf("%s(%d) = %d of a list with spare room, %d of one without", name, g, got, one)
			}
		}
	}
}

// answer is what all calls tell of some arguments.
type answer struct {
	check                                                      api.Errno
	bad, good, logical, budget, pages, cost, spare, at, number int
	place                                                      api.Place
	e                                                          api.Errno
}

// ask makes all calls.
func ask(g api.Geom, bad []int, n int) answer {
	p, e := geom.At(g, n)
	return answer{geom.Check(g), geom.Bad(g, bad), geom.Good(g, bad), geom.Logical(g, bad), geom.Budget(g, bad), geom.Pages(n), geom.Cost(n), geom.Spare(g, n), geom.Place(g, at(n, 2)), geom.Place(g, at(2, n)), p, e}
}

// R4: what is answered hangs on the arguments, not on what was asked before.
func TestAnswersHangOnArgumentsAlone(t *testing.T) {
	type question struct {
		g   api.Geom
		bad []int
		n   int
	}
	var all []question
	for _, g := range append(few(), api.Geom{}, dev(35, 8, 0), dev(16, math.MaxInt, math.MinInt)) {
		for _, bad := range [][]int{nil, {2}, {2, 2, 5}, {-1, 99, 3}, upTo(g, 6)} {
			for _, n := range []int{math.MinInt, -1, 0, 1, 5, 228, 229, 31, math.MaxInt} {
				all = append(all, question{g, bad, n})
			}
		}
	}
	var first []answer
	for _, q := range all {
		first = append(first, ask(q.g, q.bad, q.n))
	}
	for i, q := range slices.Backward(all) {
		if got := ask(q.g, q.bad, q.n); got != first[i] {
			t.Errorf("%d: %d, then %d", q, first[i], got)
		}
	}
	for i, q := range all {
		other := all[(i*7+3)%len(all)]
		ask(other.g, other.bad, other.n)
		if got := ask(q.g, q.bad, q.n); got != first[i] {
			t.Errorf("%d: %d, then %d", q, first[i], got)
		}
	}
}
