package mirror_test

import (
	"math"
	"reflect"
	"slices"
	"testing"

	"wagtail/api"
	"wagtail/mirror"
	"wagtail/nand"
)

// roomy is a list within a greater one, and all of that.
func roomy[N int | uint64](l []N) (in, room []N) {
	room = append([]N{77}, l...)
	for range 50 {
		room = append(room, 99)
	}
	return room[1 : 1+len(l)], room
}

// handed is a table whose lists stand within greater ones, and those.
type handed struct {
	x         api.Table
	bad, wear []int
	void      []uint64
}

// hand makes one of a table.
func hand(x api.Table) handed {
	h := handed{x: x}
	h.x.Bad, h.bad = roomy(x.Bad)
	h.x.Wear, h.wear = roomy(x.Wear)
	h.x.Void, h.void = roomy(x.Void)
	return h
}

// soil writes over all memory of a table's lists, their spare room, too.
func soil(x api.Table) {
	for _, l := range [][]int{x.Bad, x.Wear} {
		for i := range l[:cap(l)] {
			l[:cap(l)][i] = -5
		}
	}
	for i := range x.Void[:cap(x.Void)] {
		x.Void[:cap(x.Void)][i] = 1<<40 + 5
	}
}

// R3: a table that is handed in is not changed, its spare room neither, and not kept, whether it is written or refused.
func TestTablesHandedInAreNotChanged(t *testing.T) {
	for i, x := range append(wrong(), sheet(5, 1), sheet(6, 2), sheet(7, 3), api.Table{Seq: 8}) {
		for _, d := range []*nand.Device{nil, dark(t), made(t, dev(8, 4), []int{0}), upTo(t, dev(8, 4), 0), upTo(t, dev(8, 4), 4)} {
			is, was := hand(x), hand(x)
			e := mirror.Write(d, is.x)
			if !reflect.DeepEqual(is, was) {
				t.Fatalf("table %d: %v became %v", i, x, is)
			}
			if e != api.OK {
				continue
			}
			now := told(t, d)
			soil(is.x)
			same(t, d, now)
			newest(t, d, x, 0)
		}
	}
}

// R3: Tables, Newest and Format answer new memory each time, and share none with the device.
func TestTablesAnsweredAreNew(t *testing.T) {
	d := upTo(t, dev(8, 4), 7)
	was := told(t, d)
	for region := range 2 {
		var want []api.Table
		for n := region; n < 7; n += 2 {
			want = append(want, sheet(uint64(n), n))
		}
		first, second := mirror.Tables(d, region), mirror.Tables(d, region)
		for i := range first {
			soil(first[i])
		}
		clear(first[:cap(first)])
		if third := mirror.Tables(d, region); !all(second, want) || !all(third, want) {
			t.Errorf("region %d: %v, %v", region, second, third)
		}
	}
	for _, call := range []func() api.Table{
		func() api.Table { x, _, _ := mirror.Newest(d); return x },
		func() api.Table { x, _ := mirror.Format(d); return x },
	} {
		first, second := call(), call()
		soil(first)
		if third := call(); !alike(second, sheet(6, 6)) || !alike(third, sheet(6, 6)) {
			t.Errorf("%v, then %v", second, third)
		}
	}
	same(t, d, was)
}

// R3: what Format answers of a new device is new memory, too.
func TestFirstTableIsNew(t *testing.T) {
	d, other := made(t, dev(8, 4), nil), made(t, dev(8, 4), nil)
	x, _ := mirror.Format(d)
	soil(x)
	for _, y := range []*nand.Device{d, other} {
		if z, e := mirror.Format(y); e != api.OK || !alike(z, api.Table{Wear: make([]int, 8)}) {
			t.Errorf("%v, error %d", z, e)
		}
	}
}

// R3: the lists of what is answered share nothing with one another.
func TestListsAnsweredShareNothing(t *testing.T) {
	d := made(t, dev(8, 8), nil)
	want := api.Table{Seq: 5, Bad: []int{1, 2, 3}, Wear: []int{1, 2, 3}, Void: []uint64{1, 2, 3}}
	for range 3 {
		program(t, d, 0, laid(t, want))
	}
	l := mirror.Tables(d, 0)
	x, _, _ := mirror.Newest(d)
	for _, y := range append(l[:1:1], x) {
		for i := range y.Bad[:cap(y.Bad)] {
			y.Bad[:cap(y.Bad)][i] = 50
		}
		if !slices.Equal(y.Wear, want.Wear) || !slices.Equal(y.Void, want.Void) {
			t.Errorf("Wear and Void became %v", y)
		}
	}
	if !all(l[1:], []api.Table{want, want}) {
		t.Errorf("became %v", l)
	}
}

// P17.1: Newest and Tables change nothing on a device, whatever is on it, up or down.
func TestLooksChangeNothing(t *testing.T) {
	for seed := range 20 {
		x := dice(seed + 70)
		d := made(t, dev(8, 4), nil, x.faults(60)...)
		for n := range 20 {
			mirror.Write(d, sheet(uint64(n), n))
			down := d.Down()
			ops := d.Ops()
			look(d)
			if d.Down() != down || d.Ops() != ops {
				t.Fatalf("seed %d, table %d: down %t, %d operations, not %d", seed, n, d.Down(), d.Ops(), ops)
			}
			d.Power()
			was := told(t, d)
			look(d)
			same(t, d, was)
		}
	}
}

// look asks all that changes nothing.
func look(d *nand.Device) {
	for _, region := range []int{-1, 0, 1, 2, math.MaxInt, math.MinInt} {
		mirror.Tables(d, region)
	}
	mirror.Newest(d)
}

// answer is what a device tells behind a deed.
type answer struct {
	wrote, formatted, asked api.Errno
	newest, first           api.Table
	at                      int
	tables                  [2][]api.Table
	s                       state
}

// played is what a device tells behind each of so many deeds, some of them refused.
func played(t *testing.T, seed int, between func(d *nand.Device)) []answer {
	x := dice(seed)
	d := made(t, dev(8, 4), nil, x.faults(80)...)
	var l []answer
	for n := range 40 {
		between(d)
		var a answer
		switch x.below(6) {
		case 0:
			a.first, a.formatted = mirror.Format(d)
		case 1:
			a.wrote = mirror.Write(d, wrong()[x.below(len(wrong()))])
		default:
			a.wrote = mirror.Write(d, sheet(uint64(n/2), n))
		}
		between(d)
		d.Power()
		a.newest, a.at, a.asked = mirror.Newest(d)
		a.tables = [2][]api.Table{mirror.Tables(d, 0), mirror.Tables(d, 1)}
		a.s = told(t, d)
		l = append(l, a)
	}
	return l
}

// R4: what is answered hangs on the device, and on what was done with it, not on other devices, nor on what was looked at.
func TestAnswersHangOnDeedsAlone(t *testing.T) {
	var first [][]answer
	for seed := range 12 {
		first = append(first, played(t, seed, func(*nand.Device) {}))
	}
	other := upTo(t, dev(9, 5), 3)
	for seed := 11; seed >= 0; seed-- {
		again := played(t, seed, func(d *nand.Device) {
			look(d)
			look(nil)
			mirror.Write(other, sheet(uint64(seed), 3))
			mirror.Format(other)
		})
		if !reflect.DeepEqual(again, first[seed]) {
			t.Errorf("seed %d: not the same again", seed)
		}
	}
}

// R1: whatever is handed in, every call answers; of a nil device, too.
func TestNothingPanics(t *testing.T) {
	huge := api.Table{Bad: make([]int, 1<<16), Wear: make([]int, 1<<16), Void: make([]uint64, 1<<16)}
	for _, d := range []*nand.Device{nil, dark(t), made(t, dev(8, 4), []int{0, 1}), made(t, dev(34, 32), nil), upTo(t, dev(8, 4), 9)} {
		look(d)
		for _, x := range append(wrong(), huge, api.Table{}) {
			mirror.Write(d, x)
		}
		mirror.Format(d)
		look(d)
	}
}
