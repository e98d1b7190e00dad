package scan_test

import (
	"reflect"
	"slices"
	"testing"

	"wagtail/api"
	"wagtail/nand"
	"wagtail/scan"
)

// answer is all that is told of a device.
type answer struct {
	all            []api.Found
	e              api.Errno
	blocks, marked []int
	blank          []bool
	heads          []api.Head
	datas          []string
	errors         []api.Errno
	of             [][]api.Found
}

// asked asks all that there is to ask of a device, whatever it is.
func asked(d *nand.Device) answer {
	a := answer{blocks: scan.Blocks(d), marked: scan.Marked(d)}
	a.all, a.e = scan.All(d)
	numbers := append(beside(), row(0, 34)...)
	for _, block := range numbers {
		a.blank = append(a.blank, scan.Blank(d, block))
		a.of = append(a.of, scan.Of(a.all, block))
		for _, p := range []api.Place{at(block, 0), at(block, 3), at(block, 31), at(2, block), at(block, block)} {
			h, data, e := scan.Data(d, p)
			a.heads, a.datas, a.errors = append(a.heads, h), append(a.datas, data), append(a.errors, e)
		}
	}
	return a
}

// some is a device with pages of each sort.
func some(t *testing.T, seed int) *nand.Device {
	t.Helper()
	x := dice(seed + 900)
	d := made(t, dev(9, 5), []int{x.below(9)}, x.faults(80)...)
	for range 80 {
		block := x.below(9)
		if x.below(7) == 0 {
			d.Erase(block)
		} else {
			d.Program(at(block, d.Next(block)), sorts(t, x.below(3000))[x.below(8)].b)
		}
		d.Power()
	}
	return d
}

// R1: whatever is asked of whatever device, every call answers.
func TestNothingPanics(t *testing.T) {
	for _, d := range []*nand.Device{nil, dark(t), made(t, dev(8, 4), row(0, 7)), made(t, dev(34, 32), nil), some(t, 1)} {
		asked(d)
	}
}

// R3: nothing is changed on a device that is asked, no operation is counted, and the power is not brought back.
func TestNothingIsChanged(t *testing.T) {
	for seed := range 20 {
		d := some(t, seed)
		was := told(t, d)
		asked(d)
		same(t, d, was)
	}
	d := dark(t)
	ops := d.Ops()
	asked(d)
	if !d.Down() || d.Ops() != ops {
		t.Errorf("down %t, %d operations, not %d", d.Down(), d.Ops(), ops)
	}
	d.Power()
	holds(t, d, darkRack(t))
}

// R3: what All, Blocks and Marked answer is new memory each time, its spare room, too.
func TestAnswersAreNew(t *testing.T) {
	d := filled(t, dev(34, 4), []int{5, 9, 20, 33}, rack{2: {of(t, api.KData, 1), of(t, api.KMeta, 2)}, 8: {of(t, api.KNone, 3)}})
	was, second := asked(d), asked(d)
	first := asked(d)
	for _, l := range append([][]api.Found{first.all}, first.of...) {
		clear(l[:cap(l)])
	}
	for _, l := range [][]int{first.blocks, first.marked} {
		clear(l[:cap(l)])
	}
	if third := asked(d); !reflect.DeepEqual(second, was) || !reflect.DeepEqual(third, was) {
		t.Errorf("%v, then %v, not %v", second, third, was)
	}
}

// R3: what was told of a device stays so, whatever is done with it then.
func TestAnswersAreKeptByNobody(t *testing.T) {
	x := of(t, api.KData, 200)
	d := filled(t, dev(8, 4), nil, rack{2: {x}, 3: {x}})
	l := all(t, d)
	_, data, _ := scan.Data(d, at(2, 0))
	was := slices.Clone(l)
	d.Erase(2)
	program(t, d, 2, of(t, api.KMeta, 7))
	if !slices.Equal(l, was) || data != x.data {
		t.Errorf("%v, %q", l, data)
	}
	holds(t, d, rack{2: {of(t, api.KMeta, 7)}, 3: {x}})
}

// R3: finds that are handed in are not changed, their spare room neither, and not kept: what Of answers shares nothing with them.
func TestFindsHandedInAreNotKept(t *testing.T) {
	for _, blocks := range [][]int{{2, 2, 2, 2}, {2, 3, 2, 3}, {3, 3, 2, 2}, {3, 3, 3, 3}, {2, 2, 3, 3}} {
		room := []api.Found{found(9, 9, 9)}
		for i, block := range blocks {
			room = append(room, found(block, i, i))
		}
		for range 20 {
			room = append(room, found(2, 30, 8))
		}
		was := slices.Clone(room)
		l := room[1:5]
		got := scan.Of(l, 2)
		want := slices.Clone(got)
		if !slices.Equal(room, was) {
			t.Fatalf("%v became %v", was, room)
		}
		clear(room)
		if !slices.Equal(got, want) {
			t.Errorf("%v became %v", want, got)
		}
		copy(room, was)
		again := scan.Of(l, 2)
		clear(got[:cap(got)])
		if !slices.Equal(room, was) || !slices.Equal(again, want) {
			t.Errorf("%v, %v, not %v, %v", room, again, was, want)
		}
	}
}

// R4: what is answered hangs on the device alone, not on what is asked of others, nor how often.
func TestAnswersHangOnTheDeviceAlone(t *testing.T) {
	var first []answer
	for seed := range 12 {
		first = append(first, asked(some(t, seed)))
	}
	other := some(t, 40)
	for seed := 11; seed >= 0; seed-- {
		d := some(t, seed)
		for range 3 {
			asked(other)
			asked(nil)
			if again := asked(d); !reflect.DeepEqual(again, first[seed]) {
				t.Fatalf("seed %d: not the same again", seed)
			}
		}
		other = d
	}
}
