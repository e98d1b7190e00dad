package latest_test

import (
	"math"
	"slices"
	"testing"

	"wagtail/api"
	"wagtail/latest"
)

// ends are numbers at the edges of bytes and words, and of int itself, rising.
func ends() []int {
	return []int{math.MinInt, math.MinInt + 1, -1 << 62, -1 << 32, -1 << 31, -256, -2, -1, 0, 1, 2, 255, 256, 1<<31 - 1, 1 << 31, 1 << 32, 1 << 62, math.MaxInt - 1, math.MaxInt}
}

// longs are numbers at the edges of batches and of words, and of uint64 itself, rising.
func longs() []uint64 {
	return []uint64{0, 1, 2, 255, 256, 1<<31 - 1, 1 << 31, 1<<32 - 1, 1 << 32, 1<<63 - 1, 1 << 63, 1<<63 + 7, math.MaxUint64 - 1, math.MaxUint64}
}

// at is a page of a block.
func at(block, page int) api.Place {
	return api.Place{Block: block, Page: page}
}

// part is a find of a batch: which one of how many.
func part(batch uint64, index, count int) api.Found {
	return api.Found{At: at(2, 0), H: api.Head{Kind: api.KData, Index: index, Count: count, Batch: batch, Open: 1}}
}

// put is the find of a logical page that a batch of one page wrote.
func put(lpn int, batch, open uint64, block, page int) api.Found {
	return api.Found{At: at(block, page), H: api.Head{Kind: api.KData, Count: 1, Batch: batch, Open: open, Lpn: lpn}}
}

// torn is a find as another one, but not the last one of its batch.
func torn(f api.Found) api.Found {
	f.H.Count = f.H.Index + 2
	return f
}

// kind is a find as another one, but of a kind.
func kind(f api.Found, kind int) api.Found {
	f.H.Kind = kind
	return f
}

// has is a logical page's version.
func has(lpn, kind int, at ...api.Place) api.Copies {
	return api.Copies{Lpn: lpn, Kind: kind, At: at}
}

// last tells whether a find is the last one of its batch, as the chapter says: its Index is Count less 1, as an int that goes round.
func last(f api.Found) bool {
	if f.H.Count == math.MinInt {
		return f.H.Index == math.MaxInt
	}
	return f.H.Index == f.H.Count-1
}

// highest is the greatest Batch of some finds, as the chapter says, and whether there is one.
func highest(l []api.Found) (uint64, bool) {
	for _, f := range l {
		if !slices.ContainsFunc(l, func(g api.Found) bool { return g.H.Batch > f.H.Batch }) {
			return f.H.Batch, true
		}
	}
	return 0, false
}

// opening is the greatest Open of some finds, as the chapter says.
func opening(l []api.Found) uint64 {
	for _, f := range l {
		if !slices.ContainsFunc(l, func(g api.Found) bool { return g.H.Open > f.H.Open }) {
			return f.H.Open
		}
	}
	return 0
}

// broken tells whether the highest batch is broken, as the chapter says.
func broken(l []api.Found) bool {
	batch, there := highest(l)
	for _, f := range l {
		if f.H.Batch == batch && last(f) {
			return false
		}
	}
	return there
}

// nothing tells whether a batch counts for nothing, as the chapter says.
func nothing(l []api.Found, void []uint64, batch uint64) bool {
	most, there := highest(l)
	return slices.Contains(void, batch) || there && batch == most && broken(l)
}

// voids are the batches that count for nothing, and of which there are finds, as the chapter says.
func voids(l []api.Found, void []uint64) []uint64 {
	var told []uint64
	for _, f := range l {
		if nothing(l, void, f.H.Batch) && !slices.Contains(told, f.H.Batch) {
			told = append(told, f.H.Batch)
		}
	}
	slices.Sort(told)
	return told
}

// version are the finds that a logical page's version is of, as the chapter says, in their order.
func version(l []api.Found, void []uint64, lpn int) []api.Found {
	counting := slices.DeleteFunc(slices.Clone(l), func(f api.Found) bool {
		return f.H.Lpn != lpn || nothing(l, void, f.H.Batch)
	})
	batch, _ := highest(counting)
	var told []api.Found
	for _, f := range counting {
		if f.H.Batch == batch {
			i := 0
			for i < len(told) && !ahead(f, told[i]) {
				i++
			}
			told = slices.Insert(told, i, f)
		}
	}
	return told
}

// ahead tells whether a find comes ahead of another one, as the chapter says.
func ahead(a, b api.Found) bool {
	switch {
	case a.H.Open != b.H.Open:
		return a.H.Open > b.H.Open
	case a.At.Block != b.At.Block:
		return a.At.Block < b.At.Block
	}
	return a.At.Page < b.At.Page
}

// versions are the versions of all logical pages, as the chapter says.
func versions(l []api.Found, void []uint64) []api.Copies {
	var lpns []int
	for _, f := range l {
		if !slices.Contains(lpns, f.H.Lpn) {
			lpns = append(lpns, f.H.Lpn)
		}
	}
	slices.Sort(lpns)
	var told []api.Copies
	for _, lpn := range lpns {
		finds := version(l, void, lpn)
		if len(finds) == 0 {
			continue
		}
		c := has(lpn, finds[0].H.Kind)
		for _, f := range finds {
			c.At = append(c.At, f.At)
		}
		told = append(told, c)
	}
	return told
}

// alike tells whether versions are the same.
func alike(a, b []api.Copies) bool {
	return slices.EqualFunc(a, b, func(x, y api.Copies) bool {
		return x.Lpn == y.Lpn && x.Kind == y.Kind && slices.Equal(x.At, y.At)
	})
}

// holdsVersions holds that these are the versions.
func holdsVersions(t *testing.T, l []api.Found, void []uint64, want ...api.Copies) {
	t.Helper()
	if got := latest.Versions(l, void); !alike(got, want) {
		t.Fatalf("Versions(%v, %d) = %v, not %v", l, void, got, want)
	}
}

// holdsVoid holds that these are the batches that count for nothing.
func holdsVoid(t *testing.T, l []api.Found, void []uint64, want ...uint64) {
	t.Helper()
	if got := latest.Void(l, void); !slices.Equal(got, want) {
		t.Fatalf("Void(%v, %d) = %d, not %d", l, void, got, want)
	}
}

// holds holds all that is told of some finds against what the chapter says of them.
func holds(t *testing.T, l []api.Found, void []uint64) {
	t.Helper()
	batch, there := highest(l)
	if got, is := latest.Highest(l); got != batch || is != there {
		t.Fatalf("Highest(%v) = %d, %t, not %d, %t", l, got, is, batch, there)
	}
	if got, want := latest.Broken(l), broken(l); got != want {
		t.Fatalf("Broken(%v) = %t", l, got)
	}
	if got, want := latest.Opening(l), opening(l); got != want {
		t.Fatalf("Opening(%v) = %d, not %d", l, got, want)
	}
	holdsVoid(t, l, void, voids(l, void)...)
	holdsVersions(t, l, void, versions(l, void)...)
}

// orders are all rows in which some elements can stand.
func orders[E any](l []E) [][]E {
	if len(l) == 0 {
		return [][]E{nil}
	}
	var all [][]E
	for _, rest := range orders(l[1:]) {
		for i := range len(rest) + 1 {
			all = append(all, slices.Insert(slices.Clone(rest), i, l[0]))
		}
	}
	return all
}

// dice are numbers from a rule, others of each seed.
type dice uint32

// below is the next number, from 0 on, below n.
func (x *dice) below(n int) int {
	*x = *x*1664525 + 1013904223
	return int(*x>>8) % n
}

// finds are some finds, of few numbers, so that many of them are alike in parts.
func (x *dice) finds(many int) []api.Found {
	var l []api.Found
	for range many {
		count := x.below(3)
		l = append(l, api.Found{At: at(x.below(3), x.below(3)), H: api.Head{Kind: 2 + x.below(4), Index: count - x.below(3), Count: count, Batch: uint64(x.below(5)), Open: uint64(x.below(3)), Lpn: x.below(4) - 1}})
	}
	return l
}

// far are some finds, of numbers at the ends of their types.
func (x *dice) far(many int) []api.Found {
	end := func() int { return ends()[x.below(len(ends()))] }
	long := func() uint64 { return longs()[x.below(len(longs()))] }
	var l []api.Found
	for range many {
		l = append(l, api.Found{At: at(end(), end()), H: api.Head{Kind: end(), Index: end(), Count: end(), Batch: long(), Open: long(), Lpn: end(), Len: end()}})
	}
	return l
}

// batches are some batches, of few numbers, in any order.
func (x *dice) batches(many int) []uint64 {
	var l []uint64
	for range many {
		l = append(l, uint64(x.below(7)))
	}
	return l
}
