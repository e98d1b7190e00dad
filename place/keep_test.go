package place_test

import (
	"reflect"
	"slices"
	"testing"

	"wagtail/api"
	"wagtail/place"
)

// answer is all that is told of some versions, of the places that are chosen of them, and of others.
type answer struct {
	choice, stuck, others []api.Place
	used, free, counts    []int
}

// given are versions, bad blocks, other blocks, and places, that are asked of.
type given struct {
	v         []api.Copies
	bad, some []int
	l         []api.Place
}

// asked asks all that there is to ask of what is given.
func asked(g given) answer {
	a := answer{choice: place.Choose(g.v, g.bad), stuck: place.Stuck(g.l, g.bad), used: place.Used(g.l), free: place.Free(g.some, g.bad, g.l)}
	for _, block := range g.some {
		a.counts = append(a.counts, place.Count(g.l, block))
	}
	a.others = place.Stuck(g.l, a.used)
	return a
}

// gives gives versions, bad blocks, other blocks, and places, near and far.
func gives(seed int) given {
	x := dice(seed)
	g := given{v: x.versions(5+x.below(20), 5, 7), bad: x.blocks(1+x.below(3), 7), some: x.blocks(3+x.below(9), 7), l: x.places(4+x.below(20), 7)}
	g.v = append(g.v, x.far(x.below(5))...)
	end := ends()[x.below(len(ends()))]
	g.bad, g.some = append(g.bad, ends()[x.below(len(ends()))]), append(g.some, end, end)
	g.l = append(g.l, at(end, -end))
	return g
}

// other is the same that is given, in other memory.
func (g given) other() given {
	o := given{v: slices.Clone(g.v), bad: slices.Clone(g.bad), some: slices.Clone(g.some), l: slices.Clone(g.l)}
	for i := range o.v {
		o.v[i].At = slices.Clone(o.v[i].At)
	}
	return o
}

// spoil changes all of a list, its spare room, too.
func spoil[E any](l []E) {
	clear(l[:cap(l)])
}

// R1: whatever is handed in, every call answers.
func TestNothingPanics(t *testing.T) {
	for seed := range 500 {
		g := gives(seed)
		asked(g)
		x := dice(seed)
		asked(given{v: x.far(x.below(40)), bad: ends(), some: ends(), l: g.l})
		asked(given{v: x.far(x.below(40)), some: g.some})
		asked(given{v: g.v[:0], bad: g.bad[:0], some: g.some[:0], l: g.l[:0]})
	}
	asked(given{})
}

// R3: what is handed in is not changed, nor is its spare room: neither a list, nor the copies in it.
func TestWhatIsHandedInIsNotChanged(t *testing.T) {
	for seed := range 300 {
		g := gives(seed)
		wide := given{v: slices.Concat(g.v, g.v), bad: slices.Concat(g.bad, g.bad), some: slices.Concat(g.some, g.some), l: slices.Concat(g.l, g.l)}
		for i, c := range wide.v {
			wide.v[i].At = slices.Concat(c.At, c.At, []api.Place{at(i, i)})[:len(c.At)]
		}
		was := wide.other()
		room := func(g given) [][]api.Place {
			var l [][]api.Place
			for _, c := range g.v {
				l = append(l, slices.Clone(c.At[:cap(c.At)]))
			}
			return l
		}
		before := room(wide)
		asked(given{v: wide.v[:len(g.v)], bad: wide.bad[1:len(g.bad)], some: wide.some[:len(g.some)], l: wide.l[2:len(g.l)]})
		asked(given{v: wide.v[:3], bad: wide.bad[:0], some: wide.some[:1], l: wide.l[:2]})
		asked(given{v: wide.v[:0], bad: wide.bad[:2], some: wide.some[:0], l: wide.l[:0]})
		if !reflect.DeepEqual(wide, was) || !reflect.DeepEqual(room(wide), before) {
			t.Fatalf("%v became %v", was, wide)
		}
	}
}

// R3: what is handed in is not kept: what was told stays, whatever becomes of it.
func TestWhatIsHandedInIsNotKept(t *testing.T) {
	for seed := range 300 {
		g := gives(seed)
		want := asked(g.other())
		got := asked(g)
		for _, c := range g.v {
			spoil(c.At)
		}
		spoil(g.v)
		spoil(g.bad)
		spoil(g.some)
		spoil(g.l)
		if !reflect.DeepEqual(got, want) {
			t.Fatalf("%v became %v", want, got)
		}
	}
	// Where all is free, or stuck, what is told is no less in new memory.
	some, l := []int{3, 4}, []api.Place{at(3, 0), at(4, 1)}
	free, stuck := place.Free(some, nil, nil), place.Stuck(l, some)
	spoil(some)
	spoil(l)
	if !slices.Equal(free, []int{3, 4}) || !slices.Equal(stuck, []api.Place{at(3, 0), at(4, 1)}) {
		t.Errorf("%d free, %v stuck", free, stuck)
	}
}

// R3: what is answered is new memory each time, its spare room, too: changed, it changes neither what was handed in, nor another answer.
func TestAnswersAreNew(t *testing.T) {
	for seed := range 300 {
		g := gives(seed)
		was := g.other()
		want := asked(was)
		first, second := asked(g), asked(g)
		for _, l := range [][]api.Place{first.choice, first.stuck, first.others} {
			spoil(l)
		}
		spoil(first.used)
		spoil(first.free)
		if !reflect.DeepEqual(g, was) {
			t.Fatalf("%v became %v", was, g)
		}
		if third := asked(g); !reflect.DeepEqual(second, want) || !reflect.DeepEqual(third, want) {
			t.Fatalf("%v, then %v, not %v", second, third, want)
		}
	}
}

// R4: what is answered hangs on the arguments alone, and is the same each time, whatever is asked of others, and however often.
func TestAnswersHangOnTheArgumentsAlone(t *testing.T) {
	var first []answer
	for seed := range 30 {
		first = append(first, asked(gives(seed)))
	}
	for seed := 29; seed >= 0; seed-- {
		for range 20 {
			asked(gives(seed + 50))
			asked(given{})
			if again := asked(gives(seed)); !reflect.DeepEqual(again, first[seed]) {
				t.Fatalf("seed %d: %v, not %v", seed, again, first[seed])
			}
		}
	}
}

// R4: in whatever order versions are handed in, each has the same place; and bad blocks hang on no order, nor on how often they come.
func TestChoicesHangOnNoOrder(t *testing.T) {
	for seed := range 300 {
		x := dice(seed)
		g := gives(seed)
		v := placed(g.v)
		for i := range v {
			v[i].Lpn = i
		}
		want := place.Choose(v, g.bad)
		for range 10 {
			for range 3 * len(v) {
				i, k := x.below(len(v)), x.below(len(v))
				v[i], v[k] = v[k], v[i]
			}
			slices.Reverse(g.bad)
			for i, p := range place.Choose(v, append(g.bad, g.bad...)) {
				if p != want[v[i].Lpn] {
					t.Fatalf("%v, not %v, of %v", p, want[v[i].Lpn], v[i])
				}
			}
		}
	}
}

// P20.1: logical pages' numbers, and kinds, tell nothing of which copy is chosen: two versions of the same one are as two.
func TestNumbersAndKindsTellNothing(t *testing.T) {
	for seed := range 300 {
		g := gives(seed)
		want := place.Choose(g.v, g.bad)
		for i := range g.v {
			g.v[i].Lpn, g.v[i].Kind = 7, -i
		}
		if got := place.Choose(g.v, g.bad); !slices.Equal(got, want) {
			t.Fatalf("%v, not %v", got, want)
		}
	}
}
