package frag_test

import (
	"fmt"
	"slices"
	"testing"

	"wagtail/api"
	"wagtail/frag"
)

// spare is what stands in the spare room of what is handed in.
var spare = api.Block{Type: 1, Number: 7, Crc: 9, Data: "spare"}

// roomy is a bundle with spare room behind its blocks.
func roomy(b api.Bundle) api.Bundle {
	b.Blocks = append(slices.Clone(b.Blocks), spare, spare, spare)[:len(b.Blocks)]
	return b
}

// roomyList are bundles with spare room behind the list, and behind each one's blocks.
func roomyList(l []api.Bundle) []api.Bundle {
	var row []api.Bundle
	for _, b := range l {
		row = append(row, roomy(b))
	}
	x := roomy(api.Bundle{P: api.Primary{Life: 99}})
	return append(row, x, x, x)[:len(l)]
}

// isKept looks at whether bundles are as they were, their spare room, too, and that behind them.
func isKept(t *testing.T, what string, got, was []api.Bundle) {
	t.Helper()
	n := len(was)
	for _, x := range got[n : n+3] {
		if !alike(x, api.Bundle{P: api.Primary{Life: 99}}) {
			t.Errorf("%s: behind %s is %s", what, brief(was), brief(x))
		}
	}
	for i, b := range got[:n] {
		many := len(was[i].Blocks)
		if !alike(b, was[i]) || !slices.Equal(b.Blocks[many:many+3], []api.Block{spare, spare, spare}) {
			t.Errorf("%s: %s became %s", what, brief(was[i]), brief(b))
		}
	}
}

// spoil makes all that bundles have another one, their spare room, too.
func spoil(l []api.Bundle) {
	for _, b := range l {
		blocks := b.Blocks[:cap(b.Blocks)]
		for at := range blocks {
			blocks[at] = api.Block{Type: 99, Data: "spoilt"}
		}
	}
	l = l[:cap(l)]
	for at := range l {
		l[at] = api.Bundle{P: api.Primary{Life: 77}}
	}
}

// handed are lists of bundles that are handed in: whole ones, fragments, with holes, over one another, in no order, and such as may not be.
func handed() [][]api.Bundle {
	var all [][]api.Bundle
	for _, b := range wholes(10) {
		l, _ := frag.Split(b, 4)
		all = append(all, []api.Bundle{b}, l, l[1:], l[:1], []api.Bundle{l[2], l[0], l[1], l[0]}, []api.Bundle{l[2], b}, []api.Bundle{with(piece(b.P, 0, 10), 3, 10)}, []api.Bundle{l[1], {}, l[0]})
	}
	return all
}

// R3: bundles that are handed in are not changed, their order and spare room neither, and not kept; what is answered is new memory.
func TestBundlesHandedInAreNotChanged(t *testing.T) {
	for _, was := range handed() {
		for name, do := range map[string]func(l []api.Bundle) []api.Bundle{
			"Split in one":  func(l []api.Bundle) []api.Bundle { m, _ := frag.Split(l[0], 10); return m },
			"Split by 3":    func(l []api.Bundle) []api.Bundle { m, _ := frag.Split(l[0], 3); return m },
			"Split of none": func(l []api.Bundle) []api.Bundle { m, _ := frag.Split(l[0], 0); return m },
			"Join":          func(l []api.Bundle) []api.Bundle { b, _ := frag.Join(l...); return []api.Bundle{b} },
			"Holes":         func(l []api.Bundle) []api.Bundle { frag.Holes(12, l...); return nil },
		} {
			l := roomyList(was)
			got, again := do(l), do(l)
			isKept(t, name, l, was)
			want := clones(got)
			spoil(again)
			isKept(t, name, l, was)
			spoil(l)
			if !slices.EqualFunc(got, want, alike) {
				t.Errorf("%s of %s: %s became %s", name, brief(was), brief(want), brief(got))
			}
		}
	}
}

// R3: no two bundles of one answer share memory, spare room neither.
func TestPiecesShareNothing(t *testing.T) {
	for _, b := range wholes(10) {
		for _, size := range []int{1, 3, 9, 10} {
			l := must(t, roomy(b), size)
			want := clones(l)
			for at := range l {
				spoil(slices.Clone(l[at : at+1]))
				for other := range l {
					if other > at && !alike(l[other], want[other]) {
						t.Errorf("%d: %s became %s", at, brief(want[other]), brief(l[other]))
					}
				}
				l[at] = want[at]
			}
		}
	}
}

// R3: holes are new memory.
func TestHolesAreNewMemory(t *testing.T) {
	for _, l := range handed() {
		first, second := frag.Holes(15, l...), frag.Holes(15, l...)
		clear(first[:cap(first)])
		if want := holesOf(15, l); !slices.Equal(second, want) {
			t.Errorf("%s: %d became %d", brief(l), want, second)
		}
	}
}

// R3: a list without an element, nil or empty, and blocks likewise, is the same.
func TestNilAndEmpty(t *testing.T) {
	for _, b := range []api.Bundle{with(fronts()[0], 0, 7), with(piece(fronts()[3], 0, 7), 0, 7)} {
		empty := b
		b.Blocks, empty.Blocks = nil, []api.Block{}
		for size := range 9 {
			l, e := frag.Split(b, size)
			m, f := frag.Split(empty, size)
			if e != f || !slices.EqualFunc(l, m, alike) {
				t.Errorf("%d: %s, %d, and %s, %d", size, brief(l), e, brief(m), f)
			}
		}
		got, e := frag.Join(b)
		same, f := frag.Join(empty)
		if e != api.OK || f != api.OK || !alike(got, same) {
			t.Errorf("%s, %d, and %s, %d", brief(got), e, brief(same), f)
		}
	}
}

// R4: what is answered hangs on what is handed in, not on what was asked before.
func TestAnswersHangOnArgumentsAlone(t *testing.T) {
	all := handed()
	asked := func(i int) string {
		l := all[i]
		pieces, e := frag.Split(l[0], i%12)
		joined, f := frag.Join(l...)
		return fmt.Sprintf("%q", fmt.Sprintln(frag.Many(i, i%7), pieces, e, joined, f, frag.Holes(uint64(i), l...)))
	}
	var first []string
	for i := range all {
		first = append(first, asked(i))
	}
	for i := range slices.Backward(all) {
		if got := asked(i); got != first[i] {
			t.Errorf("%s: %s, and then %s", brief(all[i]), first[i], got)
		}
	}
}
