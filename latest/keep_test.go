package latest_test

import (
	"math"
	"reflect"
	"slices"
	"testing"

	"wagtail/api"
	"wagtail/latest"
)

// answer is all that is told of some finds.
type answer struct {
	highest       uint64
	there, broken bool
	void          []uint64
	versions      []api.Copies
	opening       uint64
}

// asked asks all that there is to ask of some finds.
func asked(l []api.Found, void []uint64) answer {
	a := answer{broken: latest.Broken(l), void: latest.Void(l, void), versions: latest.Versions(l, void), opening: latest.Opening(l)}
	a.highest, a.there = latest.Highest(l)
	return a
}

// lists are finds, and void batches, that are asked of: few and many, near and far.
func lists(seed int) ([]api.Found, []uint64) {
	x := dice(seed)
	l := x.finds(30 + x.below(90))
	for i := range l {
		l[i].H.Lpn = x.below(40) - 9
	}
	return append(l, x.far(x.below(5))...), append(x.batches(1+x.below(4)), math.MaxUint64, 1<<63, 1<<63+7)
}

// spoil changes all of a list, its spare room, too.
func spoil[E any](l []E) {
	clear(l[:cap(l)])
}

// R1: whatever is handed in, every call answers.
func TestNothingPanics(t *testing.T) {
	for seed := range 500 {
		x := dice(seed)
		far := x.far(x.below(30))
		asked(far, nil)
		asked(far, longs())
		asked(nil, longs())
		asked([]api.Found{}, []uint64{})
		asked(far[:0], nil)
	}
}

// R3: finds, and void batches, that are handed in are not changed, nor is their spare room, whether they are in order or not.
func TestWhatIsHandedInIsNotChanged(t *testing.T) {
	for seed := range 200 {
		finds, batches := lists(seed)
		room, wide := slices.Concat(finds, finds), slices.Concat(batches, batches)
		was, before := slices.Clone(room), slices.Clone(wide)
		asked(room[3:len(finds)], wide[:len(batches)])
		asked(room[3:len(finds)], wide[1:2])
		asked(room[3:len(finds)], wide[:0])
		asked(room[:0], wide[:3])
		if !slices.Equal(room, was) || !slices.Equal(wide, before) {
			t.Fatalf("%v, %d became %v, %d", was, before, room, wide)
		}
	}
}

// R3: what is handed in is not kept: what was told stays, whatever becomes of it.
func TestWhatIsHandedInIsNotKept(t *testing.T) {
	for seed := range 200 {
		l, void := lists(seed)
		want := asked(slices.Clone(l), slices.Clone(void))
		got := asked(l, void)
		spoil(l)
		spoil(void)
		if !reflect.DeepEqual(got, want) {
			t.Fatalf("%v became %v", want, got)
		}
	}
	// All that is void, handed in as it is told, is told in new memory, too.
	l, void := []api.Found{part(1, 0, 1), part(2, 0, 1), part(3, 0, 2)}, []uint64{1, 2, 3}
	got := latest.Void(l, void)
	spoil(void)
	if !slices.Equal(got, []uint64{1, 2, 3}) {
		t.Errorf("%d", got)
	}
}

// R3: what is answered is new memory each time, its spare room, too: changed, it changes neither what was handed in, nor another answer.
func TestAnswersAreNew(t *testing.T) {
	for seed := range 200 {
		l, void := lists(seed)
		finds, batches := slices.Clone(l), slices.Clone(void)
		first, second := asked(l, void), asked(l, void)
		want := asked(finds, batches)
		for _, c := range first.versions {
			spoil(c.At)
		}
		spoil(first.versions)
		spoil(first.void)
		if !slices.Equal(l, finds) || !slices.Equal(void, batches) {
			t.Fatalf("%v, %d became %v, %d", finds, batches, l, void)
		}
		if third := asked(l, void); !reflect.DeepEqual(second, want) || !reflect.DeepEqual(third, want) {
			t.Fatalf("%v, then %v, not %v", second, third, want)
		}
	}
}

// R3: the places of one version share nothing with those of another one.
func TestVersionsShareNothing(t *testing.T) {
	for seed := range 60 {
		l, void := lists(seed)
		want := latest.Versions(l, void)
		for i := range want {
			got := latest.Versions(l, void)
			spoil(got[i].At)
			got[i].At = want[i].At
			if !alike(got, want) {
				t.Fatalf("%v, not %v, when the places of one were changed", got, want)
			}
		}
	}
}

// R4: what is answered hangs on the arguments alone, and is the same each time, whatever is asked of others, and however often.
func TestAnswersHangOnTheArgumentsAlone(t *testing.T) {
	var first []answer
	for seed := range 30 {
		first = append(first, asked(lists(seed)))
	}
	for seed := 29; seed >= 0; seed-- {
		for range 20 {
			asked(lists(seed + 50))
			asked(nil, nil)
			if again := asked(lists(seed)); !reflect.DeepEqual(again, first[seed]) {
				t.Fatalf("seed %d: %v, not %v", seed, again, first[seed])
			}
		}
	}
}

// R4: whatever order finds, and void batches, are handed in, the answer is the same, as long as no two finds are as good.
func TestAnswersHangOnNoOrder(t *testing.T) {
	for seed := range 100 {
		x := dice(seed)
		l, void := lists(seed)
		for i := range l {
			l[i].At = at(i%7, i)
		}
		want := asked(l, void)
		for range 10 {
			for range 3 * len(l) {
				i, k := x.below(len(l)), x.below(len(l))
				l[i], l[k] = l[k], l[i]
			}
			slices.Reverse(void)
			if got := asked(l, append(void, void...)); !reflect.DeepEqual(got, want) {
				t.Fatalf("%v, not %v", got, want)
			}
		}
	}
}
