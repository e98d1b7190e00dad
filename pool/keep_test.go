package pool_test

import (
	"reflect"
	"slices"
	"testing"

	"wagtail/pool"
)

// R1: whatever is handed in, every call answers.
func TestNothingPanics(t *testing.T) {
	lists := [][]int{nil, {}, {0}, {-1, -1}, ends(), slices.Repeat([]int{4, 2}, 300)}
	for _, free := range lists {
		for _, counts := range lists {
			for _, pages := range ends() {
				p := pool.New(free, counts, pages, openings()[(pages&7)])
				for _, block := range ends() {
					told(p)
					p.Begin(block, block%2 == 0)
					p.Step()
					p.Release(block)
				}
				p.Close()
			}
		}
	}
}

// R3: what is handed in is not changed, nor its order, nor its spare room, by whatever is done with the pool.
func TestWhatIsHandedInIsNotChanged(t *testing.T) {
	for seed := range 300 {
		x := dice(seed)
		g := gives(seed)
		wide := given{slices.Concat(g.free, []int{3, 2, 1}), slices.Concat(g.counts, []int{7, 8, 9}), g.pages, g.opening}
		was := wide.other()
		for _, some := range []given{wide, {wide.free[:len(g.free)], wide.counts[:len(g.counts)], g.pages, g.opening}, {wide.free[1:2], wide.counts[1:3], g.pages, g.opening}, {wide.free[:0], wide.counts[:0], g.pages, g.opening}} {
			p := some.made()
			history(p, x.deeds(40))
			for block := range 12 {
				p.Release(block)
			}
		}
		if !reflect.DeepEqual(wide, was) {
			t.Fatalf("%v became %v", was, wide)
		}
	}
}

// R3: what is handed in is not kept: what is told, and what is answered, stays as it is, whatever becomes of it.
func TestWhatIsHandedInIsNotKept(t *testing.T) {
	for seed := range 300 {
		x := dice(seed)
		l := x.deeds(40)
		want := history(gives(seed).made(), l)
		g := gives(seed)
		p := g.made()
		spoil(g.free)
		spoil(g.counts)
		if got := history(p, l); !reflect.DeepEqual(got, want) {
			t.Fatalf("seed %d: %v, not %v", seed, got, want)
		}
	}
	// What is rising, and each once, when it is handed in, is no less in new memory; and so are counts that are as they count.
	free, counts := []int{2, 3, 4}, []int{0, 0, 5, 6, 7}
	p := pool.New(free, counts, 2, 0)
	spoil(free)
	spoil(counts)
	if !slices.Equal(p.Free(), []int{2, 3, 4}) || !slices.Equal(p.Counts(), []int{0, 0, 5, 6, 7}) {
		t.Errorf("%v", told(p))
	}
}

// R3: what is answered is new memory each time, its spare room, too: changed, it changes neither the pool, nor another answer, behind whatever deed.
func TestAnswersAreNew(t *testing.T) {
	for seed := range 300 {
		x := dice(seed)
		p, other := gives(seed).made(), gives(seed).made()
		for _, d := range x.deeds(40) {
			free, counts := p.Free(), p.Counts()
			wasFree, wasCounts := slices.Clone(free), slices.Clone(counts)
			spoil(p.Free())
			spoil(p.Counts())
			if !slices.Equal(free, wasFree) || !slices.Equal(counts, wasCounts) {
				t.Fatalf("seed %d: %d became %d, %d became %d", seed, wasFree, free, wasCounts, counts)
			}
			d.do(p)
			d.do(other)
			if !slices.Equal(free, wasFree) || !slices.Equal(counts, wasCounts) {
				t.Fatalf("seed %d, behind %v: %d became %d, %d became %d", seed, d, wasFree, free, wasCounts, counts)
			}
			spoil(free)
			spoil(counts)
			holdsTold(t, p, told(other), seed, d)
		}
	}
}

// R4: what is answered hangs on the arguments, and on what was done with the pool, alone, and not on what was looked at, or done with others, of the same lists, too.
func TestPoolsDontTouchEachOther(t *testing.T) {
	for seed := range 200 {
		x := dice(seed)
		first, second := x.deeds(30), x.deeds(30)
		wantFirst, wantSecond := history(gives(seed).made(), first), history(gives(seed).made(), second)
		g := gives(seed)
		a, b := g.made(), g.made()
		gotFirst, gotSecond := []state{told(a)}, []state{told(b)}
		for i := range first {
			block, is := first[i].do(a)
			gotFirst = append(gotFirst, state{best: block, has: is}, told(a))
			block, is = second[i].do(b)
			gotSecond = append(gotSecond, state{best: block, has: is}, told(b))
		}
		if !reflect.DeepEqual(gotFirst, wantFirst) || !reflect.DeepEqual(gotSecond, wantSecond) {
			t.Fatalf("seed %d: %v, not %v; %v, not %v", seed, gotFirst, wantFirst, gotSecond, wantSecond)
		}
	}
}

// R4: the same deeds of the same pool answer the same, each time, however often its state is looked at.
func TestAnswersHangOnDeedsAlone(t *testing.T) {
	for seed := range 100 {
		x := dice(seed)
		l := x.deeds(40)
		want := history(gives(seed).made(), l)
		for range 5 {
			if got := history(gives(seed).made(), l); !reflect.DeepEqual(got, want) {
				t.Fatalf("seed %d: %v, not %v", seed, got, want)
			}
		}
		// And where nothing is looked at but at last.
		p := gives(seed).made()
		for _, d := range l {
			d.do(p)
		}
		holdsTold(t, p, want[len(want)-1], seed)
	}
}

// R4, P23.1: the same is told, and answered, in whatever order free blocks are handed in, and however often.
func TestAnswersHangOnNoOrder(t *testing.T) {
	for seed := range 200 {
		x := dice(seed)
		g := gives(seed)
		l := x.deeds(30)
		want := history(g.made(), l)
		for range 5 {
			for range 3 * len(g.free) {
				i, k := x.below(len(g.free)), x.below(len(g.free))
				g.free[i], g.free[k] = g.free[k], g.free[i]
			}
			if len(g.free) > 0 {
				g.free = append(g.free, g.free[x.below(len(g.free))])
			}
			if got := history(g.made(), l); !reflect.DeepEqual(got, want) {
				t.Fatalf("seed %d, %v: %v, not %v", seed, g, got, want)
			}
		}
	}
}
