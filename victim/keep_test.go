package victim_test

import (
	"reflect"
	"slices"
	"testing"

	"wagtail/api"
	"wagtail/victim"
)

// answer is all that is told of some blocks and places, for each number of pages.
type answer struct {
	picks, gains, totals []int
	is                   []bool
	orders               [][]int
}

// given are blocks, places, and numbers of pages, that are told of.
type given struct {
	blocks []int
	l      []api.Place
	pages  []int
}

// told tells all that there is to tell of what is given.
func told(g given) answer {
	var a answer
	for _, pages := range g.pages {
		block, is := victim.Pick(g.blocks, g.l, pages)
		a.picks, a.is = append(a.picks, block), append(a.is, is)
		for _, block := range g.blocks {
			a.gains = append(a.gains, victim.Gain(g.l, block, pages))
		}
		a.totals = append(a.totals, victim.Total(g.blocks, g.l, pages))
		a.orders = append(a.orders, victim.Order(g.blocks, g.l))
	}
	return a
}

// gives gives blocks, places, and numbers of pages, near and far.
func gives(seed int) given {
	x := dice(seed)
	g := given{blocks: append(x.blocks(3+x.below(9), 7), x.far(1+x.below(3))...), l: x.places(4+x.below(30), 7)}
	for range 1 + x.below(4) {
		g.l = append(g.l, at(x.end(), x.end()))
	}
	g.pages = []int{x.below(4), 3 + x.below(9), x.end()}
	return g
}

// other is the same that is given, in other memory.
func (g given) other() given {
	return given{blocks: slices.Clone(g.blocks), l: slices.Clone(g.l), pages: slices.Clone(g.pages)}
}

// spoil changes all of a list, its spare room, too.
func spoil[E any](l []E) {
	clear(l[:cap(l)])
}

// R1: whatever is handed in, every call answers.
func TestNothingPanics(t *testing.T) {
	blocks := [][]int{nil, {}, {0}, {-1, -1}, ends(), slices.Repeat([]int{4, 2}, 300)}
	places := [][]api.Place{nil, {}, {{}}, in(ends()...), times(4, 400)}
	for _, some := range blocks {
		for _, l := range places {
			told(given{blocks: some, l: l, pages: ends()})
		}
	}
	for seed := range 300 {
		told(gives(seed))
	}
	told(given{})
}

// R3: what is handed in is not changed, nor its order, nor its spare room.
func TestWhatIsHandedInIsNotChanged(t *testing.T) {
	for seed := range 300 {
		g := gives(seed)
		wide := given{blocks: slices.Concat(g.blocks, g.blocks), l: slices.Concat(g.l, g.l), pages: slices.Concat(g.pages, g.pages)}
		was := wide.other()
		told(given{blocks: wide.blocks[:len(g.blocks)], l: wide.l[:len(g.l)], pages: wide.pages[:len(g.pages)]})
		told(given{blocks: wide.blocks[1:3], l: wide.l[2:4], pages: wide.pages[:2]})
		told(given{blocks: wide.blocks[:0], l: wide.l[:0], pages: wide.pages[:1]})
		if !reflect.DeepEqual(wide, was) {
			t.Fatalf("%v became %v", was, wide)
		}
	}
}

// R3: what is handed in is not kept: what was told stays, whatever becomes of it.
func TestWhatIsHandedInIsNotKept(t *testing.T) {
	for seed := range 300 {
		g := gives(seed)
		want := told(g.other())
		got := told(g)
		spoil(g.blocks)
		spoil(g.l)
		spoil(g.pages)
		if !reflect.DeepEqual(got, want) {
			t.Fatalf("%v became %v", want, got)
		}
	}
	// Where all stand in order as they are handed in, what is told is no less in new memory.
	blocks := []int{3, 4, 9}
	got := victim.Order(blocks, nil)
	spoil(blocks)
	if !slices.Equal(got, []int{3, 4, 9}) {
		t.Errorf("%d", got)
	}
	blocks = []int{5}
	got = victim.Order(blocks, nil)
	spoil(blocks)
	if !slices.Equal(got, []int{5}) {
		t.Errorf("%d", got)
	}
}

// R3: what is answered is new memory each time, its spare room, too: changed, it changes neither what was handed in, nor another answer.
func TestAnswersAreNew(t *testing.T) {
	for seed := range 300 {
		g := gives(seed)
		was := g.other()
		want := told(was)
		first, second := told(g), told(g)
		for _, l := range first.orders {
			spoil(l)
		}
		if !reflect.DeepEqual(g, was) {
			t.Fatalf("%v became %v", was, g)
		}
		if third := told(g); !reflect.DeepEqual(second, want) || !reflect.DeepEqual(third, want) {
			t.Fatalf("%v, then %v, not %v", second, third, want)
		}
	}
}

// R4: what is answered hangs on the arguments alone, and is the same each time, whatever is asked of others, and however often.
func TestAnswersHangOnTheArgumentsAlone(t *testing.T) {
	var first []answer
	for seed := range 30 {
		first = append(first, told(gives(seed)))
	}
	for seed := 29; seed >= 0; seed-- {
		for range 20 {
			told(gives(seed + 50))
			told(given{})
			if again := told(gives(seed)); !reflect.DeepEqual(again, first[seed]) {
				t.Fatalf("seed %d: %v, not %v", seed, again, first[seed])
			}
		}
	}
}

// R4: what is told of lists that stand in the same memory hangs on what is in them now.
func TestAnswersHangOnWhatIsThereNow(t *testing.T) {
	g := gives(1)
	for seed := range 300 {
		x := dice(seed)
		g.blocks[x.below(len(g.blocks))] = x.below(7) - 1
		g.l[x.below(len(g.l))] = at(x.below(7)-1, x.below(4))
		if got, want := told(g), told(g.other()); !reflect.DeepEqual(got, want) {
			t.Fatalf("%v: %v, not %v", g, got, want)
		}
		holds(t, g.blocks, g.l, x.below(9))
	}
}

// R4, P22.1, P22.2: the same is told in whatever order blocks and places are handed in, and on whatever pages these are.
func TestAnswersHangOnNoOrder(t *testing.T) {
	for seed := range 300 {
		x := dice(seed)
		g := gives(seed)
		want := told(g)
		for range 5 {
			shuffle(&x, g.blocks)
			shuffle(&x, g.l)
			g.l[x.below(len(g.l))].Page = x.end()
			got := told(g)
			if !slices.Equal(got.picks, want.picks) || !slices.Equal(got.is, want.is) || !slices.Equal(got.totals, want.totals) || !reflect.DeepEqual(got.orders, want.orders) {
				t.Fatalf("%v: %v, not %v", g, got, want)
			}
		}
	}
}
