package mirror_test

import (
	"testing"

	"wagtail/api"
	"wagtail/mirror"
	"wagtail/nand"
)

// formats holds what Format tells, if all goes well.
func formats(t *testing.T, d *nand.Device, want api.Table) {
	t.Helper()
	if x, e := mirror.Format(d); e != api.OK || !alike(x, want) {
		t.Fatalf("Format: %v, error %d, not %v", x, e, want)
	}
}

// refuses holds that Format tells an error, and nothing else.
func refuses(t *testing.T, d *nand.Device, want api.Errno) {
	t.Helper()
	if x, e := mirror.Format(d); e != want || !nothing(x) {
		t.Fatalf("Format: %v, error %d, not %d", x, e, want)
	}
}

// P17.3: Format of a device that is nil, or down, with a table or without, and with regions that are marked.
func TestFormatOfNoDevice(t *testing.T) {
	refuses(t, nil, api.ErrNil)
	d := dark(t)
	refuses(t, d, api.ErrDown)
	d.Power()
	formats(t, d, sheet(1, 1))
	for _, bad := range [][]int{nil, {0}, {1}, {0, 1}} {
		d := made(t, dev(8, 4), bad, fault(0, api.FCut))
		d.Erase(5)
		refuses(t, d, api.ErrDown)
		if d.Ops() != 1 || !d.Down() {
			t.Errorf("bad %d: %d operations, down %t", bad, d.Ops(), d.Down())
		}
	}
}

// P17.3: Format of a new device writes a table of Seq 0, of Wear 0 of each block, to region 0, page 0, and nothing else; of the least and the most blocks, twice in a row.
func TestFormatOfANewDevice(t *testing.T) {
	for _, g := range sides() {
		d := made(t, g, nil)
		x := api.Table{Wear: make([]int, g.Blocks)}
		want := told(t, d)
		want.ops, want.next[0], want.pages[0] = 1, 1, laid(t, x)
		for range 3 {
			formats(t, d, x)
			same(t, d, want)
			newest(t, d, x, 0)
		}
	}
}

// P17.3: the bytes of a first table's page.
func TestFormatBytes(t *testing.T) {
	d := made(t, dev(8, 4), nil)
	formats(t, d, api.Table{Wear: make([]int, 8)})
	want := make([]byte, 98)
	want[0], want[2], want[21], want[23] = 1, 1, 8, 74
	for len(want) < 252 {
		want = append(want, 255)
	}
	// Of 2016 bits 1232 are in the bytes of 255, and six beside them are 1.
	want = append(want, 0, 0, 3, 10)
	b, e := d.Read(at(0, 0))
	if e != api.OK || string(b) != string(want) {
		t.Errorf("error %d, %d, not %d", e, b, want)
	}
}

// P17.3: Format of a device with a table tells the newest one, and writes nothing, even if a region is marked, or full.
func TestFormatOfADeviceWithTables(t *testing.T) {
	for n := 1; n < 20; n++ {
		d := upTo(t, dev(8, 4), n)
		want := told(t, d)
		formats(t, d, sheet(uint64(n-1), n-1))
		same(t, d, want)
	}
	for region := range 2 {
		d := made(t, dev(8, 4), []int{1 - region})
		program(t, d, region, laid(t, sheet(6, 1)))
		program(t, d, region, laid(t, sheet(5, 2)))
		want := told(t, d)
		formats(t, d, sheet(6, 1))
		same(t, d, want)
	}
}

// P17.3: where a region is marked, and no table is there: ErrBad, and nothing is done.
func TestFormatOfMarkedRegions(t *testing.T) {
	for _, g := range sides() {
		for _, bad := range [][]int{{0}, {1}, {0, 1}, {5, 1}} {
			d := made(t, g, bad)
			want := told(t, d)
			refuses(t, d, api.ErrBad)
			same(t, d, want)
			none(t, d, api.ErrNone)
		}
		formats(t, made(t, g, []int{2, 3, 7}), api.Table{Wear: make([]int, g.Blocks)})
	}
}

// P17.3: Format writes where a Write would: to region 0's next page; it is erased first, if there is none any more.
func TestFormatWhereOtherPagesAre(t *testing.T) {
	for n := range 5 {
		for _, b := range append(append(torn(t), others(t)...), blank()) {
			d := made(t, dev(8, 4), nil)
			program(t, d, 1, b)
			for range n {
				program(t, d, 0, b)
			}
			if e := heldFormat(t, d); e != api.OK || d.Next(1) != 1 || d.Next(0) != n%4+1 || d.Wear(0) != n/4 {
				t.Fatalf("behind %d pages: error %d, next page %d, erased %d times", n, e, d.Next(0), d.Wear(0))
			}
			newest(t, d, api.Table{Wear: make([]int, 8)}, 0)
		}
	}
}

// P17.3: tables on other blocks count for nothing.
func TestFormatBesideOtherBlocks(t *testing.T) {
	d := made(t, dev(8, 4), nil)
	program(t, d, 2, laid(t, sheet(9, 9)))
	heldFormat(t, d)
	newest(t, d, api.Table{Wear: make([]int, 8)}, 0)
}

// P17.3: where the Write fails: its error, and no table is told; the next Format tells one.
func TestFormatFails(t *testing.T) {
	first := api.Table{Wear: make([]int, 8)}
	for kind, want := range map[int]api.Errno{api.FFail: api.ErrFail, api.FCut: api.ErrDown} {
		for n := range 5 {
			for _, mask := range [][]byte{nil, {0}, {1}, {15}, {255}} {
				f := fault(n, kind, mask...)
				d := made(t, dev(8, 4), nil, f)
				for range n {
					program(t, d, 0, blank())
				}
				if e := heldFormat(t, d, f); e != want {
					t.Fatalf("kind %d, behind %d pages, mask %d: error %d", kind, n, mask, e)
				}
				if e := heldFormat(t, d); e != api.OK {
					t.Fatalf("kind %d, behind %d pages, mask %d: then error %d", kind, n, mask, e)
				}
				newest(t, d, first, 0)
			}
		}
	}
}

// P17.3, example 1: Format, and Writes behind it.
func TestFormatAndWrites(t *testing.T) {
	for _, g := range sides() {
		d := made(t, g, nil)
		formats(t, d, api.Table{Wear: make([]int, g.Blocks)})
		write(t, d, sheet(1, 1))
		newest(t, d, sheet(1, 1), 1)
		write(t, d, sheet(2, 2))
		newest(t, d, sheet(2, 2), 0)
		formats(t, d, sheet(2, 2))
	}
}
