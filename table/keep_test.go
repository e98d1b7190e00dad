package table_test

import (
	"bytes"
	"math"
	"reflect"
	"slices"
	"testing"

	"wagtail/api"
	"wagtail/table"
)

// roomy is a list within a greater one, and all of that.
func roomy[N int | uint64](l []N) (in, room []N) {
	room = append([]N{77}, l...)
	for range 50 {
		room = append(room, 99)
	}
	return room[1 : 1+len(l)], room
}

// handed is a table whose lists stand within greater ones, and those.
type handed struct {
	x         api.Table
	bad, wear []int
	void      []uint64
}

// hand makes one of a table.
func hand(x api.Table) handed {
	h := handed{x: x}
	h.x.Bad, h.bad = roomy(x.Bad)
	h.x.Wear, h.wear = roomy(x.Wear)
	h.x.Void, h.void = roomy(x.Void)
	return h
}

// R3: tables that are handed in are not changed, their spare room neither.
func TestTablesHandedInAreNotChanged(t *testing.T) {
	for _, x := range append(many()[:30], wrong()...) {
		is, was := hand(x), hand(x)
		for name, call := range map[string]func(){
			"Check": func() { table.Check(is.x) },
			"Put":   func() { table.Put(is.x) },
			"Same":  func() { table.Same(is.x, is.x); table.Same(is.x, own(x)) },
			"With": func() {
				for _, b := range ints() {
					table.With(is.x, b)
				}
			},
			"Voided": func() {
				for _, n := range longs() {
					table.Voided(is.x, n)
				}
			},
			"IsBad":  func() { table.IsBad(is.x, 33) },
			"IsVoid": func() { table.IsVoid(is.x, 33) },
		} {
			if call(); !reflect.DeepEqual(is, was) {
				t.Errorf("%s of %v: became %v", name, x, is)
			}
		}
	}
}

// R3: bytes that are handed in are not changed, their spare room neither, and not kept.
func TestBytesHandedInAreNotChanged(t *testing.T) {
	l := [][]byte{nil, {}, blank(), blank()[:255], make([]byte, 256), make([]byte, 600)}
	for _, x := range append(many(), wrong()...) {
		l = append(l, laid(x))
	}
	for _, was := range l {
		room := slices.Concat([]byte{170}, was, bytes.Repeat([]byte{85}, 300))
		all, b := slices.Clone(room), room[1:1+len(was)]
		x, _ := table.Get(b)
		if !bytes.Equal(room, all) {
			t.Fatalf("Get of %d: became %d", was, room)
		}
		copied := own(x)
		clear(room)
		if !alike(x, copied) {
			t.Fatalf("what was got of %d became %v", was, x)
		}
	}
}

// soil writes over all memory of a table's lists, their spare room, too.
func soil(x api.Table) {
	for _, l := range [][]int{x.Bad, x.Wear} {
		for i := range l[:cap(l)] {
			l[:cap(l)][i] = -5
		}
	}
	for i := range x.Void[:cap(x.Void)] {
		x.Void[:cap(x.Void)][i] = 1<<40 + 5
	}
}

// R3: With and Voided tell new memory, also where nothing is added, and in the parts that are as they were.
func TestTablesAnsweredAreNew(t *testing.T) {
	for _, x := range append(many()[:30], wrong()...) {
		blocks, batches := append([]int{0, 16, 33, 40}, x.Bad...), append([]uint64{0, 4, 1 << 31}, x.Void...)
		var calls []func(x api.Table) api.Table
		for _, b := range blocks {
			calls = append(calls, func(x api.Table) api.Table { return table.With(x, b) })
		}
		for _, n := range batches {
			calls = append(calls, func(x api.Table) api.Table { return table.Voided(x, n) })
		}
		for _, call := range calls {
			is, was := hand(x), hand(x)
			first, second := call(is.x), call(is.x)
			want := own(first)
			if soil(first); !reflect.DeepEqual(is, was) || !alike(second, want) {
				t.Fatalf("of %v: what was handed in became %v, what was answered %v", x, is, second)
			}
			if third := call(is.x); !alike(third, want) {
				t.Fatalf("of %v: %v, then %v", x, want, third)
			}
			if soil(is.x); !alike(second, want) {
				t.Fatalf("of %v: what was answered became %v", x, second)
			}
		}
	}
}

// R3: the lists of one table that is answered share nothing.
func TestListsOfOneAnswerShareNothing(t *testing.T) {
	one := []int{1, 2, 3}
	for _, x := range []api.Table{table.With(api.Table{Bad: one, Wear: one}, 2), table.Voided(api.Table{Bad: one, Wear: one}, 9)} {
		for i := range x.Bad[:cap(x.Bad)] {
			x.Bad[:cap(x.Bad)][i] = 50
		}
		if !slices.Equal(x.Wear, []int{1, 2, 3}) || !slices.Equal(one, []int{1, 2, 3}) {
			t.Errorf("%v of %v", x, one)
		}
	}
	for _, x := range many() {
		got, _ := table.Get(laid(x))
		for i := range got.Bad[:cap(got.Bad)] {
			got.Bad[:cap(got.Bad)][i] = 50
		}
		if !slices.Equal(got.Wear, x.Wear) {
			t.Errorf("Wear of %v became %d", x, got.Wear)
		}
	}
}

// R3: Put and Get tell new memory each time.
func TestPagesAnsweredAreNew(t *testing.T) {
	for _, x := range many() {
		a, b := put(t, x), put(t, x)
		clear(a[:cap(a)])
		if c := put(t, x); !bytes.Equal(b, laid(x)) || !bytes.Equal(c, laid(x)) {
			t.Fatalf("Put(%v) became %d, %d", x, b, c)
		}
		first, _ := table.Get(b)
		second, _ := table.Get(b)
		soil(first)
		if third, _ := table.Get(b); !alike(second, x) || !alike(third, x) || !bytes.Equal(b, laid(x)) {
			t.Fatalf("Get of %v became %v, %v", x, second, third)
		}
	}
}

// answer is what all calls tell of some arguments.
type answer struct {
	check, put, get  api.Errno
	laid             string
	got, with, void  api.Table
	same, bad, empty bool
}

// question is what all calls are asked.
type question struct {
	x, y  api.Table
	b     []byte
	block int
	batch uint64
}

// ask makes all calls.
func (q question) ask() answer {
	a := answer{check: table.Check(q.x), with: table.With(q.x, q.block), void: table.Voided(q.x, q.batch), same: table.Same(q.x, q.y), bad: table.IsBad(q.x, q.block), empty: table.IsVoid(q.x, q.batch)}
	b, e := table.Put(q.x)
	a.laid, a.put = string(b), e
	a.got, a.get = table.Get(q.b)
	return a
}

// as tells whether answers are the same.
func (a answer) as(b answer) bool {
	return a.check == b.check && a.put == b.put && a.get == b.get && a.laid == b.laid && alike(a.got, b.got) && alike(a.with, b.with) && alike(a.void, b.void) && a.same == b.same && a.bad == b.bad && a.empty == b.empty
}

// questions are many, right and wrong ones.
func questions() []question {
	var l []question
	all := append(many(), wrong()...)
	pages := [][]byte{nil, blank(), make([]byte, 256), make([]byte, 7)}
	for _, x := range all {
		pages = append(pages, laid(x))
	}
	for i, x := range all {
		for k := range 12 {
			l = append(l, question{x, all[(i*k+k)%len(all)], pages[(i*5+k)%len(pages)], ints()[(i+4*k)%len(ints())], longs()[(i+2*k)%len(longs())]})
		}
	}
	return l
}

// R4: what is answered hangs on the arguments, not on what was asked before.
func TestAnswersHangOnArgumentsAlone(t *testing.T) {
	all := questions()
	var first []answer
	for _, q := range all {
		first = append(first, q.ask())
	}
	for i, q := range slices.Backward(all) {
		if got := q.ask(); !got.as(first[i]) {
			t.Fatalf("of %v: %v, then %v", q, first[i], got)
		}
	}
	for i, q := range all {
		all[(i*7+3)%len(all)].ask()
		if got := q.ask(); !got.as(first[i]) {
			t.Fatalf("of %v: %v, then %v", q, first[i], got)
		}
	}
}

// R1: whatever is handed in, every call answers.
func TestNothingPanics(t *testing.T) {
	d := dice(168)
	for i := range 3000 {
		b := make([]byte, d.below(300))
		if i%2 == 0 {
			b = make([]byte, 252)
		}
		for k := range b {
			b[k] = byte(d.below(256))
		}
		if i%2 == 0 {
			h := api.Head{Kind: 1, Count: 1, Batch: d.long(), Lpn: d.below(40), Len: d.below(229)}
			b = framed(h, b[:h.Len])
		}
		a := question{d.any(), d.any(), b, ints()[d.below(len(ints()))], longs()[d.below(len(longs()))]}.ask()
		if want, e := meant(b); a.get != e || !alike(a.got, want) {
			t.Fatalf("Get(%d) = %v, error %d", b, a.got, a.get)
		}
	}
	for _, x := range []api.Table{{Bad: make([]int, 1<<16), Wear: make([]int, 1<<16), Void: make([]uint64, 1<<16)}, {Bad: []int{math.MinInt}, Wear: []int{math.MinInt}, Void: []uint64{math.MaxUint64}}} {
		a := question{x, x, nil, math.MaxInt, math.MaxUint64}.ask()
		if a.check != api.ErrRange || a.put != api.ErrRange || !a.same || a.bad {
			t.Errorf("errors %d, %d", a.check, a.put)
		}
	}
}
