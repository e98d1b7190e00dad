package mirror_test

import (
	"testing"

	"wagtail/api"
	"wagtail/mirror"
	"wagtail/nand"
)

// P17.2: of a device that is nil, or down, the error is its own, whether the table may be or not.
func TestWriteToNoDevice(t *testing.T) {
	for _, x := range append(wrong(), sheet(7, 1), api.Table{}) {
		if e := mirror.Write(nil, x); e != api.ErrNil {
			t.Errorf("nil: Write(%v): error %d", x, e)
		}
		d := dark(t)
		ops := d.Ops()
		if e := mirror.Write(d, x); e != api.ErrDown || d.Ops() != ops || !d.Down() {
			t.Errorf("down: Write(%v): error %d", x, e)
		}
		d.Power()
		newest(t, d, sheet(1, 1), 1)
	}
}

// P17.2: a table that may not be is ErrRange, also where a region is marked, or ought to be erased; nothing is changed.
func TestWriteOfWrongTables(t *testing.T) {
	devices := []*nand.Device{made(t, dev(8, 4), []int{0}), made(t, dev(8, 4), []int{0, 1})}
	for _, n := range []int{0, 1, 2, 8, 9} {
		devices = append(devices, upTo(t, dev(8, 4), n))
	}
	half := made(t, dev(8, 4), []int{1})
	write(t, half, sheet(0, 0))
	for i, d := range append(devices, half) {
		was := told(t, d)
		for _, x := range wrong() {
			if e := mirror.Write(d, x); e != api.ErrRange {
				t.Errorf("device %d: Write(%v): error %d", i, x, e)
			}
		}
		same(t, d, was)
	}
}

// P17.2: the first table is written to region 0, page 0, the next one to region 1, the next one to region 0 again: its page alone, nothing else.
func TestWriteInTurn(t *testing.T) {
	for _, g := range sides() {
		d := made(t, g, nil)
		for n := range 8 {
			want := told(t, d)
			region, p := n%2, n/2
			want.ops++
			want.next[region]++
			want.pages[region*g.Pages+p] = laid(t, sheet(uint64(n), n))
			if p >= g.Pages {
				t.Fatal("no page left")
			}
			write(t, d, sheet(uint64(n), n))
			same(t, d, want)
			newest(t, d, sheet(uint64(n), n), region)
		}
	}
}

// P17.2: what stands on the page, byte for byte.
func TestWriteBytes(t *testing.T) {
	d := made(t, dev(8, 4), nil)
	write(t, d, api.Table{Seq: 258, Bad: []int{3, 33}, Wear: []int{1, 515}, Void: []uint64{7}})
	want := make([]byte, 102)
	copy(want, []byte{1, 0, 1, 0, 0, 0, 0, 0, 0, 0, 1, 2, 0, 0, 0, 0, 0, 0, 0, 0, 0, 2, 0, 78, 8, 0, 0, 0, 2, 0, 1, 2, 3})
	want[97], want[101] = 1, 7
	for len(want) < 252 {
		want = append(want, 255)
	}
	// Of 2016 bits 1200 are in the bytes of 255, and 19 beside them are 1.
	want = append(want, 0, 0, 3, 29)
	b, e := d.Read(at(0, 0))
	if e != api.OK || string(b) != string(want) {
		t.Errorf("error %d, %d, not %d", e, b, want)
	}
}

// P17.2: the region is the one that has not the newest table, whichever was written last, and whatever its Seq.
func TestWriteLeavesTheNewest(t *testing.T) {
	for region := range 2 {
		d := made(t, dev(8, 4), nil)
		program(t, d, region, laid(t, sheet(100, 1)))
		for n := range 13 {
			want, _ := told(t, d).written(sheet(uint64(n), n), nil)
			write(t, d, sheet(uint64(n), n))
			same(t, d, want)
			newest(t, d, sheet(100, 1), region)
			if d.Next(region) != 1 || d.Wear(region) != 0 || d.Next(1-region) != 1+n%4 || d.Wear(1-region) != n/4 {
				t.Fatalf("region %d, behind %d: next pages %d, %d", region, n, d.Next(0), d.Next(1))
			}
		}
		write(t, d, sheet(101, 2))
		newest(t, d, sheet(101, 2), 1-region)
	}
}

// P17.2: of one Seq in both regions that of region 0 is the newest, so region 1 is written.
func TestWriteOfOneSeq(t *testing.T) {
	d := made(t, dev(8, 4), nil)
	for n := range 10 {
		held(t, d, sheet(9, n))
		newest(t, d, sheet(9, 0), 0)
	}
	if d.Next(0) != 1 || d.Wear(1) != 2 {
		t.Errorf("next page %d, region 1 erased %d times", d.Next(0), d.Wear(1))
	}
}

// P17.2: a region that has no next page any more is erased first, and no other one: all of its pages but the first one are blank, then.
func TestWriteErases(t *testing.T) {
	for _, g := range sides() {
		for region := range 2 {
			d := upTo(t, g, 2*g.Pages+region)
			want := told(t, d)
			want.ops += 2
			want.wear[region]++
			want.next[region] = 1
			for p := range g.Pages {
				want.pages[region*g.Pages+p] = blank()
			}
			x := sheet(uint64(2*g.Pages+region), 77)
			want.pages[region*g.Pages] = laid(t, x)
			write(t, d, x)
			same(t, d, want)
			newest(t, d, x, region)
		}
	}
}

// P17.2: a region of which one page is left is not erased.
func TestWriteToTheLastPage(t *testing.T) {
	for region := range 2 {
		d := made(t, dev(8, 4), nil)
		program(t, d, 1-region, laid(t, sheet(5, 1)))
		for range 3 {
			program(t, d, region, blank())
		}
		write(t, d, sheet(6, 2))
		if d.Wear(0) != 0 || d.Wear(1) != 0 || d.Next(region) != 4 {
			t.Errorf("region %d: erased %d, %d times, next page %d", region, d.Wear(0), d.Wear(1), d.Next(region))
		}
		newest(t, d, sheet(6, 2), region)
	}
}

// P17.2: where there is no table region 0 is written, even if all its pages are something else, and region 1 has room.
func TestWriteWhereNoTableIs(t *testing.T) {
	for n := range 5 {
		for _, b := range [][]byte{blank(), make([]byte, 256), others(t)[0]} {
			d := made(t, dev(8, 4), nil)
			for range n {
				program(t, d, 0, b)
			}
			held(t, d, sheet(3, 3))
			newest(t, d, sheet(3, 3), 0)
			if d.Next(1) != 0 || d.Wear(1) != 0 || d.Wear(0) != n/4 {
				t.Errorf("behind %d pages: next page %d of region 1", n, d.Next(1))
			}
		}
	}
}

// P17.2: many tables one behind the other, each region being erased again and again; of the greatest Seqs, too.
func TestWriteMany(t *testing.T) {
	for i, g := range []api.Geom{dev(8, 4), dev(9, 5), dev(34, 8)} {
		d := made(t, g, nil)
		from := []uint64{0, 1 << 16, 1<<31 - 100}[i]
		for n := range 100 {
			x := sheet(from+uint64(n), n)
			if e := held(t, d, x); e != api.OK {
				t.Fatalf("table %d: error %d", n, e)
			}
			newest(t, d, x, n%2)
		}
		if times := (50 - 1) / g.Pages; d.Wear(0) != times || d.Wear(1) != times {
			t.Errorf("%d: erased %d, %d times, not %d", g, d.Wear(0), d.Wear(1), times)
		}
	}
}

// P17.2: tables of nothing, and of the most that there may be, are written.
func TestWriteEdges(t *testing.T) {
	full := api.Table{Seq: 1<<31 - 1}
	for n := range 34 {
		full.Bad = append(full.Bad, n)
		full.Wear = append(full.Wear, 65535)
	}
	for n := range 36 {
		full.Void = append(full.Void, 1<<31-36+uint64(n))
	}
	d := made(t, dev(8, 4), nil)
	for i, x := range []api.Table{{}, {Seq: 1, Wear: make([]int, 34)}, full} {
		if e := held(t, d, x); e != api.OK {
			t.Fatalf("Write(%v): error %d", x, e)
		}
		newest(t, d, x, i%2)
	}
}

// P17.2: a region that is marked is refused: ErrBad, and nothing is done; the other one is written still, as long as it is its turn.
func TestWriteToMarkedRegions(t *testing.T) {
	for _, bad := range [][]int{{0}, {0, 1}} {
		d := made(t, dev(8, 4), bad)
		if e := held(t, d, sheet(0, 0)); e != api.ErrBad || d.Ops() != 0 {
			t.Errorf("bad %d: error %d, %d operations", bad, e, d.Ops())
		}
		none(t, d, api.ErrNone)
	}
	d := made(t, dev(8, 4), []int{1})
	write(t, d, sheet(0, 0))
	d2 := made(t, dev(8, 4), []int{0})
	program(t, d2, 1, laid(t, sheet(0, 0)))
	for range 3 {
		if e := held(t, d, sheet(1, 1)); e != api.ErrBad || d.Ops() != 1 {
			t.Errorf("region 1 marked: error %d, %d operations", e, d.Ops())
		}
		newest(t, d, sheet(0, 0), 0)
		if e := held(t, d2, sheet(1, 1)); e != api.ErrBad || d2.Ops() != 1 {
			t.Errorf("region 0 marked: error %d, %d operations", e, d2.Ops())
		}
		newest(t, d2, sheet(0, 0), 1)
	}
}

// P17.2: other blocks that are marked are nothing to it.
func TestWriteBesideMarkedBlocks(t *testing.T) {
	d := made(t, dev(8, 4), []int{2, 3, 4, 5, 6, 7})
	for n := range 20 {
		if e := held(t, d, sheet(uint64(n), n)); e != api.OK {
			t.Fatalf("table %d: error %d", n, e)
		}
	}
}

// P17.2: where a program fails: ErrFail, and the next Write goes to the same region's next page, if nothing was told there.
func TestWriteFailsToProgram(t *testing.T) {
	for n := range 7 {
		for _, mask := range [][]byte{nil, {0}, {1}, {127}} {
			f := fault(n, api.FFail, mask...)
			d := upTo(t, dev(8, 4), n, f)
			x := sheet(uint64(n), n)
			if e := held(t, d, x, f); e != api.ErrFail {
				t.Fatalf("table %d: error %d", n, e)
			}
			if n == 0 {
				none(t, d, api.ErrNone)
			} else {
				newest(t, d, sheet(uint64(n-1), n-1), (n+1)%2)
			}
			write(t, d, x)
			newest(t, d, x, n%2)
			if n < 6 && (d.Next(n%2) != n/2+2 || d.Wear(n%2) != 0) {
				t.Errorf("table %d: next page %d of region %d", n, d.Next(n%2), n%2)
			}
		}
	}
}

// P17.2: where a program fails, though all of it is done: ErrFail, and the table is there, the newest one; the next Write goes to the other region.
func TestWriteFailsButIsDone(t *testing.T) {
	f := fault(3, api.FFail, 255)
	d := upTo(t, dev(8, 4), 3, f)
	if e := held(t, d, sheet(3, 3), f); e != api.ErrFail {
		t.Fatalf("error %d", e)
	}
	newest(t, d, sheet(3, 3), 1)
	held(t, d, sheet(4, 4))
	newest(t, d, sheet(4, 4), 0)
}

// P17.2: where an erase fails: ErrFail, nothing is programmed, and the next Write erases again.
func TestWriteFailsToErase(t *testing.T) {
	for region := range 2 {
		for _, mask := range [][]byte{nil, {0}, {1}, {240}, {255}} {
			n := 8 + region
			// Each table is an operation, the erase of region 0 another one.
			op := n + region
			f, again := fault(op, api.FFail, mask...), fault(op+1, api.FFail, 1)
			d := upTo(t, dev(8, 4), n, f, again)
			x := sheet(uint64(n), n)
			for i := range 2 {
				if e := held(t, d, x, f, again); e != api.ErrFail || d.Ops() != op+1+i || d.Next(region) != 4 || d.Wear(region) != 1+i {
					t.Fatalf("region %d, mask %d: error %d, %d operations", region, mask, e, d.Ops())
				}
				newest(t, d, sheet(uint64(n-1), n-1), 1-region)
			}
			write(t, d, x)
			newest(t, d, x, region)
			if d.Next(region) != 1 || d.Wear(region) != 3 {
				t.Errorf("region %d: next page %d, erased %d times", region, d.Next(region), d.Wear(region))
			}
		}
	}
}

// P17.2: where the erase goes well, and the program fails, the next Write goes to the next page, without an erase.
func TestWriteFailsBehindItsErase(t *testing.T) {
	for _, mask := range [][]byte{nil, {3}} {
		f := fault(9, api.FFail, mask...)
		d := upTo(t, dev(8, 4), 8, f)
		if e := held(t, d, sheet(8, 8), f); e != api.ErrFail {
			t.Fatalf("error %d", e)
		}
		newest(t, d, sheet(7, 7), 1)
		write(t, d, sheet(8, 8))
		newest(t, d, sheet(8, 8), 0)
		if d.Next(0) != 2 || d.Wear(0) != 1 {
			t.Errorf("next page %d, erased %d times", d.Next(0), d.Wear(0))
		}
	}
}

// P17.2: whatever is on the pages, fails, and is cut, a Write does what the chapter says, and no more.
func TestWriteWhateverThereIs(t *testing.T) {
	junk := append(append(torn(t), others(t)...), blank())
	for seed := range 60 {
		x := dice(seed)
		var bad []int
		if seed%10 == 9 {
			bad = []int{x.below(2)}
		}
		l := x.faults(120)
		d := made(t, dev(8, 4+seed%2), bad, l...)
		for range 50 {
			region := x.below(2)
			switch x.below(12) {
			case 0:
				d.Program(at(region, d.Next(region)), junk[x.below(len(junk))])
			case 1:
				d.Program(at(region, d.Next(region)), laid(t, sheet(uint64(x.below(30)), x.below(99))))
			case 2:
				d.Erase(region)
			case 3:
				held(t, d, wrong()[x.below(len(wrong()))], l...)
			case 4:
				heldFormat(t, d, l...)
			default:
				held(t, d, sheet(uint64(x.below(30)), x.below(99)), l...)
			}
			d.Power()
		}
	}
}
