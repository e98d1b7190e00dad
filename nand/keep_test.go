package nand_test

import (
	"bytes"
	"math"
	"reflect"
	"slices"
	"testing"

	"wagtail/api"
	"wagtail/nand"
)

// R3: the bad blocks that are handed in are not changed, and not kept, their spare room neither.
func TestBadBlocksAreNotKept(t *testing.T) {
	rowed := []int{9, 2, 5, 5, -1, 99, 4, 6}
	was := slices.Clone(rowed)
	bad := rowed[1:6]
	d := made(t, dev(8, 4, 1), bad)
	if !slices.Equal(rowed, was) {
		t.Errorf("%d became %d", was, rowed)
	}
	copy(rowed, []int{3, 3, 3, 3, 3, 3, 3, 3})
	fill(t, d, 3, 1)
	d.Erase(3)
	for b := range 8 {
		if d.Marked(b) != (b == 2 || b == 5) {
			t.Errorf("Marked(%d) = %t", b, d.Marked(b))
		}
	}
	if e := d.Erase(5); e != api.ErrBad {
		t.Errorf("error %d", e)
	}
	if !slices.Equal(rowed, slices.Repeat([]int{3}, 8)) {
		t.Errorf("became %d", rowed)
	}
}

// R3: the faults that are handed in, and their masks, are not changed, and not kept, their spare room neither.
func TestFaultsAreNotKept(t *testing.T) {
	for _, size := range []int{0, 1, 3, 256, 300} {
		room := slices.Concat(row(1), row(2))
		mask := room[1 : 1+size]
		roomy := []api.Fault{fault(8, 9, 7), {At: 1, Kind: api.FFail, Mask: mask}, fault(1, api.FCut, 255), {At: 2, Kind: api.FFail, Mask: mask}, fault(0, api.FCut, 8)}
		was := slices.Clone(roomy)
		d := made(t, dev(8, 4, 1), nil, roomy[1:4]...)
		fill(t, d, 2, 1)
		if e := d.Program(at(2, 1), row(7)); e != api.ErrFail || !bytes.Equal(read(t, d, at(2, 1)), programmed(blank(), row(7), mask)) {
			t.Errorf("error %d of operation 1", e)
		}
		if !reflect.DeepEqual(roomy, was) || !bytes.Equal(room, slices.Concat(row(1), row(2))) {
			t.Errorf("faults became %v", roomy)
		}
		meant := erased(row(200), mask)
		clear(room)
		room[0] = 9
		roomy[1], roomy[3] = fault(3, api.FCut, 1), fault(3, api.FCut, 1)
		if e := d.Erase(2); e != api.ErrFail || !bytes.Equal(read(t, d, at(2, 0)), meant) {
			t.Errorf("error %d of operation 2, the page is %d", e, read(t, d, at(2, 0)))
		}
		if e := d.Erase(2); e != api.OK {
			t.Errorf("error %d of operation 3", e)
		}
		if room[0] != 9 || !bytes.Equal(room[1:], make([]byte, 511)) || !reflect.DeepEqual(roomy[1], fault(3, api.FCut, 1)) {
			t.Errorf("what was handed in became %d, %v", room, roomy)
		}
	}
}

// R3: bytes to be programmed are not changed, and not kept, their spare room neither, with a fault or without.
func TestBytesAreNotKept(t *testing.T) {
	d := made(t, dev(8, 4, 1), nil, fault(1, api.FFail, 15), fault(4, api.FFail, 15))
	room := slices.Concat(row(1), row(2), row(3))
	b := room[256:512]
	for p, want := range [][]byte{row(2), programmed(blank(), row(2), []byte{15})} {
		d.Program(at(2, p), b)
		if !bytes.Equal(room, slices.Concat(row(1), row(2), row(3))) {
			t.Errorf("what was handed in became %d", room)
		}
		clear(b)
		if got := read(t, d, at(2, p)); !bytes.Equal(got, want) {
			t.Errorf("page %d is %d", p, got)
		}
		copy(b, row(2))
	}
	d.Program(at(2, 2), b)
	d.Erase(3)
	d.Erase(2)
	for _, size := range []int{0, 255, 257} {
		d.Program(at(2, 3), room[256:256+size])
	}
	if !bytes.Equal(room, slices.Concat(row(1), row(2), row(3))) {
		t.Errorf("what was handed in became %d", room)
	}
}

// R3: what Read answers is new memory each time, and shares none with the device, nor with what else is read, its spare room neither.
func TestReadIsNewMemory(t *testing.T) {
	d := made(t, dev(8, 4, 1), nil)
	fill(t, d, 2, 3)
	for p, want := range [][]byte{row(200), row(201), row(202), blank()} {
		a, b := read(t, d, at(2, p)), read(t, d, at(2, p))
		clear(a[:cap(a)])
		if !bytes.Equal(b, want) {
			t.Errorf("page %d read twice shares memory", p)
		}
		if got := read(t, d, at(2, p)); !bytes.Equal(got, want) {
			t.Errorf("page %d became %d", p, got)
		}
	}
	kept := read(t, d, at(2, 0))
	fill(t, d, 2, 1)
	d.Erase(2)
	if !bytes.Equal(kept, row(200)) {
		t.Errorf("what was read became %d by an erase", kept)
	}
	none := read(t, d, at(2, 0))
	fill(t, d, 2, 1)
	if !bytes.Equal(none, blank()) {
		t.Errorf("what was read became %d by a program", none)
	}
	for b := range 8 {
		for p := range 4 {
			want := blank()
			if b == 2 && p == 0 {
				want = row(200)
			}
			if got := read(t, d, at(b, p)); !bytes.Equal(got, want) {
				t.Errorf("page %d of block %d is %d", p, b, got)
			}
		}
	}
}

// R4: two devices, of the same lists, too, share nothing.
func TestDevicesShareNothing(t *testing.T) {
	bad, faults := []int{3}, []api.Fault{fault(1, api.FCut, 15), fault(2, api.FFail, 240)}
	a, b := made(t, dev(8, 4, 1), bad, faults...), made(t, dev(8, 4, 1), bad, faults...)
	was := told(b)
	fill(t, a, 2, 1)
	a.Program(at(2, 1), row(1))
	a.Power()
	a.Erase(2)
	a.Erase(0)
	if now := told(b); !reflect.DeepEqual(was, now) {
		t.Errorf("a device became %v by what was done with another one", now)
	}
	fill(t, b, 2, 1)
	if e := b.Program(at(2, 1), row(1)); e != api.ErrDown || !b.Down() || a.Down() {
		t.Errorf("error %d, down %t, the other one %t", e, b.Down(), a.Down())
	}
	b.Power()
	if e := b.Erase(2); e != api.ErrFail {
		t.Errorf("error %d", e)
	}
	b.Erase(0)
	if x, y := told(a), told(b); !reflect.DeepEqual(x, y) {
		t.Errorf("the same was done, and one is %v, the other %v", x, y)
	}
}

// played is what a device tells behind each of so many programs and erases, cut and failed.
func played(d *nand.Device, seed int) ([]api.Errno, state) {
	var l []api.Errno
	x := dice(seed)
	for i := range 60 {
		block := x.below(9) - 1
		l = append(l, d.Program(at(block, d.Next(block)), row(i)), d.Program(at(block, x.below(5)), row(i)))
		if x.below(4) == 0 {
			l = append(l, d.Erase(block))
		}
		if x.below(3) == 0 {
			d.Power()
		}
	}
	d.Power()
	return l, told(d)
}

// R4: what a device answers hangs on what it was made of, and on what was done with it, not on others, nor on what was looked at.
func TestAnswersHangOnDeedsAlone(t *testing.T) {
	type run struct {
		l []api.Errno
		s state
	}
	play := func(seed int, before func(d *nand.Device)) run {
		x := dice(seed)
		d := made(t, dev(8, 4, 1), []int{x.below(8)}, troubles(&x, 40)...)
		before(d)
		l, s := played(d, seed)
		return run{l, s}
	}
	var first []run
	for seed := range 12 {
		first = append(first, play(seed, func(*nand.Device) {}))
	}
	look := func(d *nand.Device) {
		told(d)
		d.Power()
		d.Read(at(math.MaxInt, 0))
		d.Erase(math.MinInt)
		d.Program(at(0, 0), nil)
	}
	for seed := 11; seed >= 0; seed-- {
		if again := play(seed, look); !reflect.DeepEqual(again, first[seed]) {
			t.Errorf("seed %d: errors %d, then %d", seed, first[seed].l, again.l)
		}
	}
}
