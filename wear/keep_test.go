package wear_test

import (
	"reflect"
	"slices"
	"testing"

	"wagtail/wear"
)

// answer is all that is told of some blocks, counts, and of what is played.
type answer struct {
	of, least, most, gaps []int
	may                   []bool
	added                 [][]int
	played                [][]int
}

// given are blocks, counts, and what is asked, that are told of.
type given struct {
	blocks, counts, asked []int
}

// told tells all that there is to tell of what is given.
func told(g given) answer {
	var a answer
	block, is := wear.Least(g.blocks, g.counts)
	a.least = []int{block}
	a.may = append(a.may, is)
	block, is = wear.Most(g.blocks, g.counts)
	a.most = []int{block}
	a.may = append(a.may, is)
	a.gaps = []int{wear.Gap(g.blocks, g.counts)}
	for _, n := range g.asked {
		a.of = append(a.of, wear.Of(g.counts, n))
		a.may = append(a.may, wear.May(g.blocks, g.counts, n, 1), wear.May(g.blocks, g.counts, n, n))
		a.added = append(a.added, wear.Add(g.counts, n))
		a.played = append(a.played, wear.Play(n, n, g.asked), wear.Play(1+len(g.blocks), n, g.asked))
	}
	return a
}

// gives gives blocks, counts, and what is asked, near and far.
func gives(seed int) given {
	x := dice(seed)
	return given{
		blocks: append(x.some(1+x.below(9), 9), x.far(1+x.below(3))...),
		counts: append(x.some(3+x.below(9), 9), x.far(1+x.below(3))...),
		asked:  append(x.some(3+x.below(9), 9), x.far(1+x.below(3))...),
	}
}

// other is the same that is given, in other memory.
func (g given) other() given {
	return given{blocks: slices.Clone(g.blocks), counts: slices.Clone(g.counts), asked: slices.Clone(g.asked)}
}

// spoil changes all of a list, its spare room, too.
func spoil(l []int) {
	l = l[:cap(l)]
	for i := range l {
		l[i] = -99
	}
}

// R1: whatever is handed in, every call answers.
func TestNothingPanics(t *testing.T) {
	lists := [][]int{nil, {}, {0}, {-1}, ends(), parts(1030), filled(70, 65535)}
	for _, blocks := range lists {
		for _, counts := range lists {
			told(given{blocks: blocks, counts: counts, asked: ends()})
		}
	}
	for seed := range 300 {
		x := dice(seed)
		told(gives(seed))
		told(given{blocks: x.far(x.below(30)), counts: x.far(x.below(30)), asked: x.far(x.below(30))})
	}
	told(given{})
}

// R3: what is handed in is not changed, nor is its spare room, in which the counts of blocks behind the last one could be laid.
func TestWhatIsHandedInIsNotChanged(t *testing.T) {
	for seed := range 300 {
		g := gives(seed)
		wide := given{blocks: slices.Concat(g.blocks, g.blocks), counts: slices.Concat(g.counts, g.counts), asked: slices.Concat(g.asked, g.asked)}
		was := wide.other()
		told(given{blocks: wide.blocks[:len(g.blocks)], counts: wide.counts[:len(g.counts)], asked: wide.asked[:len(g.asked)]})
		told(given{blocks: wide.blocks[:1], counts: wide.counts[:2], asked: wide.asked[1:3]})
		told(given{blocks: wide.blocks[:0], counts: wide.counts[:0], asked: wide.asked[:1]})
		for block := range wide.counts {
			wear.Add(wide.counts[:1], block)
			wear.Add(wide.counts[:0], block)
		}
		if !reflect.DeepEqual(wide, was) {
			t.Fatalf("%v became %v", was, wide)
		}
	}
}

// R3: what is handed in is not kept: what was told stays, whatever becomes of it.
func TestWhatIsHandedInIsNotKept(t *testing.T) {
	for seed := range 300 {
		g := gives(seed)
		want := told(g.other())
		got := told(g)
		spoil(g.blocks)
		spoil(g.counts)
		spoil(g.asked)
		if !reflect.DeepEqual(got, want) {
			t.Fatalf("%v became %v", want, got)
		}
	}
	// Where nothing is counted, as all count as they are, what is told is no less in new memory.
	for _, block := range []int{-1, 0, 1024} {
		counts := []int{65535, 7}
		got := wear.Add(counts, block)
		spoil(counts)
		if !slices.Equal(got, []int{65535, 7}) {
			t.Errorf("block %d: %d", block, got)
		}
	}
}

// R3: what is answered is new memory each time, its spare room, too: changed, it changes neither what was handed in, nor another answer.
func TestAnswersAreNew(t *testing.T) {
	for seed := range 300 {
		g := gives(seed)
		was := g.other()
		want := told(was)
		first, second := told(g), told(g)
		for _, l := range slices.Concat(first.added, first.played) {
			spoil(l)
		}
		if !reflect.DeepEqual(g, was) {
			t.Fatalf("%v became %v", was, g)
		}
		if third := told(g); !reflect.DeepEqual(second, want) || !reflect.DeepEqual(third, want) {
			t.Fatalf("%v, then %v, not %v", second, third, want)
		}
	}
}

// R4: what is answered hangs on the arguments alone, and is the same each time, whatever is asked of others, and however often.
func TestAnswersHangOnTheArgumentsAlone(t *testing.T) {
	var first []answer
	for seed := range 20 {
		first = append(first, told(gives(seed)))
	}
	for seed := 19; seed >= 0; seed-- {
		for range 10 {
			told(gives(seed + 50))
			told(given{})
			if again := told(gives(seed)); !reflect.DeepEqual(again, first[seed]) {
				t.Fatalf("seed %d: %v, not %v", seed, again, first[seed])
			}
		}
	}
}

// R4, P21.2, P21.3: in whatever order blocks are handed in, and however often each one is, the same is told.
func TestAnswersHangOnNoOrderOfBlocks(t *testing.T) {
	for seed := range 300 {
		x := dice(seed)
		g := gives(seed)
		want := told(g)
		for range 10 {
			for range 3 * len(g.blocks) {
				i, k := x.below(len(g.blocks)), x.below(len(g.blocks))
				g.blocks[i], g.blocks[k] = g.blocks[k], g.blocks[i]
			}
			got := told(given{blocks: append(g.blocks, g.blocks...), counts: g.counts, asked: g.asked})
			if !slices.Equal(got.least, want.least) || !slices.Equal(got.most, want.most) || !slices.Equal(got.gaps, want.gaps) || !slices.Equal(got.may, want.may) {
				t.Fatalf("%v: %v, not %v", g, got, want)
			}
		}
	}
}
