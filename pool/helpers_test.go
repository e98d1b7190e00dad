package pool_test

import (
	"fmt"
	"maps"
	"math"
	"math/big"
	"reflect"
	"slices"
	"testing"

	"wagtail/api"
	"wagtail/pool"
)

// ends are numbers at the edges of bytes and words, of a device's blocks and pages, of what is counted, and of int itself, rising.
func ends() []int {
	return []int{math.MinInt, math.MinInt + 1, -1 << 62, -1 << 32, -1 << 31, -1024, -2, -1, 0, 1, 2, 31, 32, 33, 34, 255, 256, 1022, 1023, 1024, 1025, 65534, 65535, 65536, 1<<31 - 1, 1 << 31, 1 << 32, 1 << 62, math.MaxInt - 1, math.MaxInt}
}

// openings are numbers of openings, at the edges of words, and of their type, rising.
func openings() []uint64 {
	return []uint64{0, 1, 2, 255, 1<<31 - 1, 1 << 31, 1<<32 - 1, 1 << 63, math.MaxUint64 - 2, math.MaxUint64 - 1, math.MaxUint64}
}

// at is a page of a block.
func at(block, page int) api.Place {
	return api.Place{Block: block, Page: page}
}

// given is what a pool is made of.
type given struct {
	free, counts []int
	pages        int
	opening      uint64
}

// made makes a pool.
func (g given) made() *pool.Pool {
	return pool.New(g.free, g.counts, g.pages, g.opening)
}

// other is the same that is given, in other memory.
func (g given) other() given {
	g.free, g.counts = slices.Clone(g.free), slices.Clone(g.counts)
	return g
}

// state is all that is told of a pool.
type state struct {
	room         int
	free, counts []int
	opening      uint64
	best         int
	has          bool
	at           api.Place
	open         bool
}

// told tells all that there is to tell of a pool. A list without an element is one, whether it is nil or not.
func told(p *pool.Pool) state {
	s := state{room: p.Room(), free: append([]int{}, p.Free()...), counts: append([]int{}, p.Counts()...), opening: p.Opening()}
	s.best, s.has = p.Best()
	s.at, s.open = p.At()
	return s
}

// String tells a state; of great lists just the first elements.
func (s state) String() string {
	return fmt.Sprintf("Room %d, Free %s, Counts %s, Opening %d, Best %d, %t, At %d, %t", s.room, brief(s.free), brief(s.counts), s.opening, s.best, s.has, s.at, s.open)
}

// brief tells the first ones of a list, and how many there are: some tests have a great many.
func brief[E any](l []E) string {
	return fmt.Sprintf("%v of %d", l[:min(len(l), 40)], len(l))
}

// paper is a pool as the chapter's words tell it, written down slowly: which blocks are free stands in a map, and each look is worked out anew.
type paper struct {
	free    map[int]bool
	counts  []int
	pages   int
	opening uint64
	open    []api.Place // the open block's next page, or none
}

// paper writes down a pool.
func (g given) paper() *paper {
	w := &paper{free: map[int]bool{}, counts: slices.Clone(g.counts), pages: g.pages, opening: g.opening}
	if w.pages < 1 {
		w.pages = 1
	}
	for _, block := range g.free {
		w.free[block] = true
	}
	return w
}

// count is a block's count, as chapter 21 says.
func count(counts []int, block int) int {
	for place, n := range counts {
		if place == block && n > 0 {
			return n
		}
	}
	return 0
}

// added are counts with one more of a block, as chapter 21 says.
func added(counts []int, block int) []int {
	var l []int
	for place := range counts {
		l = append(l, count(counts, place))
	}
	if block < 0 || block > 1023 {
		return l
	}
	for len(l) < block+1 {
		l = append(l, 0)
	}
	if l[block] < 65535 {
		l[block]++
	}
	return l
}

// best is the free block that is worn least, as chapter 21 says, and whether there is one.
func (w *paper) best() (int, bool) {
	l := slices.Sorted(maps.Keys(w.free))
	for _, block := range l {
		if !slices.ContainsFunc(l, func(other int) bool { return count(w.counts, other) < count(w.counts, block) }) {
			return block, true
		}
	}
	return 0, false
}

// room is how many pages are left: a number without an end.
func (w *paper) room() *big.Int {
	n := new(big.Int).Mul(big.NewInt(int64(len(w.free))), big.NewInt(int64(w.pages)))
	for _, next := range w.open {
		n.Add(n, new(big.Int).Sub(big.NewInt(int64(w.pages)), big.NewInt(int64(next.Page))))
	}
	return n
}

// told is all that is told of the pool: of more room than an int holds the greatest int.
func (w *paper) told() state {
	s := state{room: math.MaxInt, free: slices.AppendSeq([]int{}, maps.Keys(w.free)), counts: append([]int{}, w.counts...), opening: w.opening}
	if n := w.room(); n.IsInt64() {
		s.room = int(n.Int64())
	}
	slices.Sort(s.free)
	s.best, s.has = w.best()
	for _, next := range w.open {
		s.at, s.open = next, true
	}
	return s
}

// begin is Begin, as the chapter says.
func (w *paper) begin(block int, ok bool) bool {
	if !w.free[block] || len(w.open) > 0 {
		return false
	}
	delete(w.free, block)
	w.counts = added(w.counts, block)
	if ok {
		if w.opening < math.MaxUint64 {
			w.opening++
		}
		w.open = []api.Place{at(block, 0)}
	}
	return true
}

// step is Step, as the chapter says.
func (w *paper) step() {
	for _, next := range w.open {
		w.open = nil
		if next.Page < w.pages-1 {
			w.open = []api.Place{at(next.Block, next.Page+1)}
		}
	}
}

// close is Close, as the chapter says.
func (w *paper) close() (int, bool) {
	for _, next := range w.open {
		w.open = nil
		return next.Block, true
	}
	return 0, false
}

// release is Release, as the chapter says.
func (w *paper) release(block int) bool {
	for _, next := range w.open {
		if next.Block == block {
			return false
		}
	}
	if w.free[block] || block < 0 {
		return false
	}
	w.free[block] = true
	return true
}

// deed is what is done with a pool: Begin, of ok or not, Step, Close, Release, each of a block, if it is of one.
type deed struct {
	kind  byte // b: Begin with ok true; f: with ok false; s, c, r
	block int
}

// do does a deed with a pool, and tells what it answers.
func (d deed) do(p *pool.Pool) (int, bool) {
	switch d.kind {
	case 'b':
		return 0, p.Begin(d.block, true)
	case 'f':
		return 0, p.Begin(d.block, false)
	case 's':
		p.Step()
	case 'c':
		return p.Close()
	case 'r':
		return 0, p.Release(d.block)
	}
	return 0, false
}

// write writes a deed down, and tells what is answered.
func (d deed) write(w *paper) (int, bool) {
	switch d.kind {
	case 'b':
		return 0, w.begin(d.block, true)
	case 'f':
		return 0, w.begin(d.block, false)
	case 's':
		w.step()
	case 'c':
		return w.close()
	case 'r':
		return 0, w.release(d.block)
	}
	return 0, false
}

// String tells a deed.
func (d deed) String() string {
	return fmt.Sprintf("%c%d", d.kind, d.block)
}

// history does deeds with a pool, and tells all that it answers, and what is told behind each of them.
func history(p *pool.Pool, l []deed) []state {
	all := []state{told(p)}
	for _, d := range l {
		block, is := d.do(p)
		// What the deed answers stands in a state of its own.
		all = append(all, state{best: block, has: is}, told(p))
	}
	return all
}

// holdsDeeds holds a pool against what is written down, from its making on, behind each of some deeds.
func holdsDeeds(t *testing.T, g given, l ...deed) *pool.Pool {
	t.Helper()
	p, w := g.made(), g.paper()
	holdsTold(t, p, w.told(), g)
	for i, d := range l {
		before := w.told()
		block, is := d.do(p)
		wantBlock, want := d.write(w)
		if block != wantBlock || is != want {
			t.Fatalf("%v, %v: %d, %t, not %d, %t, of %v", g, l[:i+1], block, is, wantBlock, want, before)
		}
		holdsTold(t, p, w.told(), g, l[:i+1])
	}
	return p
}

// holdsTold holds that just this is told of a pool.
func holdsTold(t *testing.T, p *pool.Pool, want state, of ...any) {
	t.Helper()
	if got := told(p); !reflect.DeepEqual(got, want) {
		t.Fatalf("%v:\n%v, not\n%v", of, got, want)
	}
}

// holdsDrain holds that a pool has just as much room as can be used up by Steps, and by Begins of ok, and no more; the pool is used up then. Each tells which free block is begun next.
func holdsDrain(t *testing.T, p *pool.Pool, each func() (int, bool)) {
	t.Helper()
	room, used := p.Room(), 0
	for {
		if _, open := p.At(); open {
			p.Step()
			used++
		} else if block, is := each(); !is {
			break
		} else if !p.Begin(block, true) {
			t.Fatalf("Begin(%d) is false of %v", block, told(p))
		}
		if got := p.Room(); got != room-used {
			t.Fatalf("Room is %d, %d at first, and %d pages are used: %v", got, room, used, told(p))
		}
	}
	if used != room || p.Room() != 0 || len(p.Free()) > 0 {
		t.Fatalf("Room %d, but %d are used: %v", room, used, told(p))
	}
}

// rows are all rows of at most many of some elements.
func rows[E any](numbers []E, many int) [][]E {
	all := [][]E{nil}
	for from := 0; many > 0; many-- {
		to := len(all)
		for _, l := range all[from:to] {
			for _, n := range numbers {
				all = append(all, append(slices.Clone(l), n))
			}
		}
		from = to
	}
	return all
}

// orders are all rows in which some numbers can stand.
func orders(l []int) [][]int {
	if len(l) == 0 {
		return [][]int{nil}
	}
	var all [][]int
	for _, rest := range orders(l[1:]) {
		for i := range len(rest) + 1 {
			all = append(all, slices.Insert(slices.Clone(rest), i, l[0]))
		}
	}
	return all
}

// spoil changes all of a list, its spare room, too.
func spoil(l []int) {
	l = l[:cap(l)]
	for i := range l {
		l[i] = -99
	}
}

// dice are numbers from a rule, others of each seed.
type dice uint32

// below is the next number, from 0 on, below n.
func (x *dice) below(n int) int {
	*x = *x*1664525 + 1013904223
	return int(*x>>8) % n
}

// end is one of ends.
func (x *dice) end() int {
	return ends()[x.below(len(ends()))]
}

// some are numbers from -1 on, below n - 1.
func (x *dice) some(many, n int) []int {
	var l []int
	for range many {
		l = append(l, x.below(n)-1)
	}
	return l
}

// far are numbers at the ends of their type.
func (x *dice) far(many int) []int {
	var l []int
	for range many {
		l = append(l, x.end())
	}
	return l
}

// gives gives what a pool is made of, near and far.
func gives(seed int) given {
	x := dice(seed)
	g := given{free: x.some(x.below(9), 9), counts: x.some(x.below(9), 5), pages: x.below(6) - 1, opening: uint64(x.below(9))}
	if x.below(3) == 0 {
		g.free, g.counts = append(g.free, x.far(2)...), append(g.counts, x.far(2)...)
	}
	if x.below(4) == 0 {
		g.pages = x.end()
	}
	if x.below(4) == 0 {
		g.opening = openings()[x.below(len(openings()))]
	}
	return g
}

// deeds are some deeds: most of them with the blocks from -1 to 7, some with blocks at the ends of their type.
func (x *dice) deeds(many int) []deed {
	var l []deed
	for range many {
		d := deed{"bbfssscrr"[x.below(9)], x.below(9) - 1}
		if d.kind == 's' || d.kind == 'c' {
			d.block = 0
		} else if x.below(9) == 0 {
			d.block = x.end()
		}
		l = append(l, d)
	}
	return l
}
