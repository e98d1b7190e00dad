package scan_test

import (
	"slices"
	"testing"

	"wagtail/api"
	"wagtail/nand"
	"wagtail/page"
	"wagtail/scan"
	"wagtail/zeros"
)

// refuses holds that All tells an error, and nothing else.
func refuses(t *testing.T, d *nand.Device, want api.Errno) {
	t.Helper()
	if l, e := scan.All(d); e != want || len(l) != 0 {
		t.Fatalf("All: %v, error %d, not %d", l, e, want)
	}
}

// P18.2: All of a device that is nil, or down; with the power back all is found.
func TestAllOfNoDevice(t *testing.T) {
	refuses(t, nil, api.ErrNil)
	d := dark(t)
	refuses(t, d, api.ErrDown)
	d.Power()
	holds(t, d, darkRack(t))
	d = made(t, dev(8, 4), row(0, 6), fault(0, api.FCut))
	d.Erase(7)
	refuses(t, d, api.ErrDown)
}

// P18.2, example 1: on a new device nothing is found, whatever is marked.
func TestAllOfANewDevice(t *testing.T) {
	for _, g := range sides() {
		for _, bad := range [][]int{nil, {0, 1}, {2}, {g.Blocks - 1}, row(2, g.Blocks-1), row(0, g.Blocks-1)} {
			d := made(t, g, bad)
			holds(t, d, nil)
			if l := all(t, d); len(l) != 0 {
				t.Errorf("%v", l)
			}
		}
	}
}

// P18.2: what is found, written out: by blocks, then by pages, whatever was programmed first, with the heads.
func TestAllWrittenOut(t *testing.T) {
	d := made(t, dev(8, 4), []int{4})
	a := right(t, api.Head{Kind: api.KData, Index: 1, Count: 2, Batch: 9, Open: 8, Lpn: 7}, "six")
	b := right(t, api.Head{Kind: api.KNone, Count: 1, Batch: 1, Open: 1, Lpn: 65535}, "")
	c := right(t, api.Head{Kind: api.KSuper, Count: 1, Batch: 2, Open: 2}, "x")
	program(t, d, 7, a)
	program(t, d, 5, b)
	program(t, d, 7, c)
	program(t, d, 2, c)
	program(t, d, 5, known(t, 3))
	program(t, d, 5, a)
	want := []api.Found{
		{At: at(2, 0), H: api.Head{Kind: 5, Count: 1, Batch: 2, Open: 2, Len: 1}},
		{At: at(5, 0), H: api.Head{Kind: 2, Count: 1, Batch: 1, Open: 1, Lpn: 65535}},
		{At: at(5, 2), H: api.Head{Kind: 3, Index: 1, Count: 2, Batch: 9, Open: 8, Lpn: 7, Len: 3}},
		{At: at(7, 0), H: api.Head{Kind: 3, Index: 1, Count: 2, Batch: 9, Open: 8, Lpn: 7, Len: 3}},
		{At: at(7, 1), H: api.Head{Kind: 5, Count: 1, Batch: 2, Open: 2, Len: 1}},
	}
	if l := all(t, d); !slices.Equal(l, want) {
		t.Errorf("%v, not %v", l, want)
	}
}

// P18.2: pages in one block alone, from one to all of it, in each block: in the blocks 0 and 1 none is a find.
func TestAllOfOneBlock(t *testing.T) {
	for _, g := range sides() {
		for block := range g.Blocks {
			r := rack{}
			for _, many := range []int{1, 2, g.Pages} {
				for len(r[block]) < many {
					r[block] = append(r[block], of(t, 2+len(r[block])%4, block*100+len(r[block])))
				}
				d := filled(t, g, nil, r)
				if l := all(t, d); block < 2 && len(l) != 0 || block >= 2 && len(l) != many {
					t.Fatalf("%d, %d pages in block %d: %v", g, many, block, l)
				}
				if g.Blocks < 34 || g.Pages < 32 || many == g.Pages {
					holds(t, d, r)
				}
			}
		}
	}
}

// P18.2: pages in several blocks, and in every one, full or not.
func TestAllOfSeveralBlocks(t *testing.T) {
	for i, g := range sides() {
		for seed := range 4 {
			x := dice(10*i + seed)
			r := rack{}
			for block := range g.Blocks {
				many := g.Pages
				if seed > 0 {
					many = x.below(g.Pages + 1)
				}
				for range many {
					r[block] = append(r[block], of(t, 2+x.below(4), x.below(3000)))
				}
			}
			d := filled(t, g, nil, r)
			holds(t, d, r)
			if l := all(t, d); seed == 0 && len(l) != (g.Blocks-2)*g.Pages {
				t.Errorf("%d: %d finds of full blocks", g, len(l))
			}
		}
	}
}

// P18.2: each row of up to four pages, each of any sort: what is Blank, Torn, or a table's is no find, and what is ahead of it, behind it, or between, is one still.
func TestAllOfEachRow(t *testing.T) {
	l := sorts(t, 50)
	for many, rows := range []int{1, 8, 64, 512, 4096} {
		for n := range rows {
			var r []sheet
			for rest := n; len(r) < many; rest /= len(l) {
				r = append(r, l[rest%len(l)])
			}
			block := 2 + n%6
			d := filled(t, dev(8, 4), nil, rack{block: r})
			var want []api.Found
			for i, s := range r {
				if s.find() {
					want = append(want, api.Found{At: at(block, i), H: s.h})
				}
			}
			if got := all(t, d); !slices.Equal(got, want) {
				t.Fatalf("row %d of %d pages: %v, not %v", n, many, got, want)
			}
		}
	}
}

// P18.2: tables on data blocks, and pages of their kind that are no tables, are no finds.
func TestAllLeavesOutTables(t *testing.T) {
	x := []sheet{known(t, 1), of(t, api.KTable, 2), right(t, api.Head{Kind: api.KTable, Count: 1}, ""), right(t, api.Head{Kind: api.KTable, Index: 1, Count: 2, Open: 5, Lpn: 60000}, "no table")}
	r := rack{}
	for block := range 8 {
		r[block] = x
	}
	d := filled(t, dev(8, 4), nil, r)
	holds(t, d, r)
	if l := all(t, d); len(l) != 0 {
		t.Errorf("%v", l)
	}
}

// P18.2: each sheet that is Torn, among others, on every block.
func TestAllLeavesOutTornPages(t *testing.T) {
	for mark, x := range torns(t) {
		r := rack{}
		for block := range 8 {
			r[block] = []sheet{x, of(t, api.KData, mark), x}
		}
		d := filled(t, dev(8, 4), nil, r)
		holds(t, d, r)
		if l := all(t, d); len(l) != 6 {
			t.Errorf("%v", l)
		}
	}
}

// P18.2: blocks that are marked take no page, however it is tried, and have no find; the others' finds are told all the same.
func TestAllBesideMarkedBlocks(t *testing.T) {
	for marks := range 256 {
		bad := slices.DeleteFunc(row(0, 7), func(block int) bool { return marks>>block&1 == 0 })
		d := made(t, dev(8, 4), bad)
		r := rack{}
		for block := range 8 {
			x := of(t, 2+block%4, marks+block)
			if !slices.Contains(bad, block) {
				program(t, d, block, x)
				program(t, d, block, x)
				r[block] = []sheet{x, x}
				continue
			}
			for range 2 {
				if e := d.Program(at(block, 0), x.b); e != api.ErrBad {
					t.Fatalf("marked block %d is programmed: error %d", block, e)
				}
				if e := d.Erase(block); e != api.ErrBad {
					t.Fatalf("marked block %d is erased: error %d", block, e)
				}
			}
		}
		holds(t, d, r)
	}
}

// masks are masks of nothing, of all, and of what is torn at some places.
func masks() [][]byte {
	l := [][]byte{nil, {0}, {255}, {1}, {128}, {15}, {255, 0}, {0, 0, 0, 0, 0, 0, 0, 0, 0, 0, 0, 1}}
	for _, i := range []int{1, 3, 4, 24, 100, 251, 252, 255} {
		l = append(l, slices.Concat(zeros.Ones(i), make([]byte, 256-i)), slices.Concat(make([]byte, i), zeros.Ones(256-i)))
	}
	return l
}

// P18.2: behind a program that failed, or was cut, a page is a find just if all of it was done.
func TestAllBehindATornProgram(t *testing.T) {
	for _, mask := range masks() {
		for kind, err := range map[int]api.Errno{api.FFail: api.ErrFail, api.FCut: api.ErrDown} {
			d := made(t, dev(8, 4), nil, fault(2, kind, mask...))
			x, y := of(t, api.KData, 5), of(t, api.KMeta, 77)
			program(t, d, 3, x)
			program(t, d, 4, x)
			if e := d.Program(at(3, 1), y.b); e != err {
				t.Fatalf("error %d", e)
			}
			d.Power()
			program(t, d, 3, x)
			want := []api.Found{{At: at(3, 0), H: x.h}, {At: at(3, 2), H: x.h}, {At: at(4, 0), H: x.h}}
			if slices.Equal(read(t, d, at(3, 1)).b, y.b) {
				want = slices.Insert(want, 1, api.Found{At: at(3, 1), H: y.h})
			}
			if l := all(t, d); !slices.Equal(l, want) {
				t.Fatalf("kind %d, mask %d: %v, not %v", kind, mask, l, want)
			}
			holds(t, d, racked(t, d))
		}
	}
}

// P18.2: behind an erase that failed, or was cut, finds are those pages that are as they were; behind one that went well, none, till they are programmed anew.
func TestAllBehindATornErase(t *testing.T) {
	for _, mask := range masks() {
		for _, kind := range []int{api.FFail, api.FCut} {
			d := made(t, dev(8, 4), nil, fault(4, kind, mask...))
			r := rack{2: {of(t, api.KSuper, 5)}, 5: {of(t, api.KData, 60), of(t, api.KNone, 228), of(t, api.KMeta, 0)}}
			for _, block := range []int{5, 2} {
				for _, s := range r[block] {
					program(t, d, block, s)
				}
			}
			if e := d.Erase(5); e == api.OK {
				t.Fatal("no error")
			}
			d.Power()
			for n, s := range r[5] {
				if now := read(t, d, at(5, n)); !slices.Equal(now.b, s.b) {
					r[5][n] = sheet{b: now.b, e: api.ErrForm}
					if page.Class(now.b) == page.Blank {
						r[5][n] = blank()
					}
				}
			}
			holds(t, d, r)
			if e := d.Erase(5); e != api.OK {
				t.Fatalf("error %d", e)
			}
			r[5] = nil
			holds(t, d, r)
			r[5] = []sheet{of(t, api.KData, 61)}
			program(t, d, 5, r[5][0])
			holds(t, d, r)
		}
	}
}

// P18.1 to P18.3: whatever is marked, programmed and erased, and whatever fails, or is cut: all is told as it stands there.
func TestWhateverThereIs(t *testing.T) {
	for seed := range 60 {
		x := dice(seed)
		g := dev(8+seed%3, 4+seed%2)
		var bad []int
		for range x.below(4) {
			bad = append(bad, x.below(g.Blocks))
		}
		d := made(t, g, bad, x.faults(150)...)
		for n := range 120 {
			block := x.below(g.Blocks)
			if x.below(8) == 0 {
				d.Erase(block)
			} else {
				d.Program(at(block, d.Next(block)), sorts(t, x.below(3000))[x.below(8)].b)
			}
			if d.Down() {
				refuses(t, d, api.ErrDown)
				d.Power()
			}
			if n%3 == 0 {
				holds(t, d, racked(t, d))
			}
		}
		blocks, marked := split(g, bad)
		sorted(t, d, blocks, marked)
	}
}
