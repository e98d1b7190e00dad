package nand_test

import (
	"bytes"
	"slices"
	"testing"

	"wagtail/api"
)

// P14.2: Read tells the bytes of each page as they were programmed, each of its own.
func TestRead(t *testing.T) {
	for _, g := range few() {
		d := made(t, g, nil)
		for b := range g.Blocks {
			fill(t, d, b, g.Pages)
		}
		for b := range g.Blocks {
			for p := range g.Pages {
				if got := read(t, d, at(b, p)); !bytes.Equal(got, row(b*100+p)) {
					t.Errorf("page %d of block %d of %d is %d", p, b, g, got)
				}
			}
		}
	}
}

// P14.2: Read of no page is ErrRange, with nothing beside it.
func TestReadOfNoPage(t *testing.T) {
	for _, g := range few() {
		d := made(t, g, []int{3})
		for _, n := range slices.Concat(ints(), []int{g.Blocks - 1, g.Blocks, g.Pages - 1, g.Pages}) {
			for _, p := range []api.Place{at(n, 0), at(0, n), at(n, n), at(3, n), at(g.Blocks-1, n), at(n, g.Pages-1), at(n, g.Pages), at(g.Blocks, n)} {
				is := p.Block >= 0 && p.Block < g.Blocks && p.Page >= 0 && p.Page < g.Pages
				b, e := d.Read(p)
				if is && (e != api.OK || !bytes.Equal(b, blank())) || !is && (e != api.ErrRange || b != nil) {
					t.Errorf("Read(%d) of %d: %d, error %d", p, g, b, e)
				}
			}
		}
	}
}

// P14.2: pages of a marked block are read like others.
func TestReadOfMarked(t *testing.T) {
	d := made(t, dev(8, 4, 1), []int{0, 1, 2, 7})
	for b := range 8 {
		for p := range 4 {
			if got := read(t, d, at(b, p)); !bytes.Equal(got, blank()) {
				t.Errorf("page %d of block %d is %d", p, b, got)
			}
		}
	}
}

// P14.2: Read turns nothing, and is no operation, whatever it answers.
func TestReadTurnsNothing(t *testing.T) {
	d := made(t, dev(8, 4, 1), []int{5}, fault(2, api.FCut, 255))
	fill(t, d, 2, 2)
	for _, p := range []api.Place{at(2, 0), at(2, 1), at(2, 2), at(5, 0), at(8, 0), at(-1, 0), at(2, 4), at(2, -1)} {
		for range 5 {
			d.Read(p)
		}
	}
	if d.Ops() != 2 || d.Down() || d.Next(2) != 2 || d.Wear(2) != 0 {
		t.Errorf("%d operations, down %t, next page %d, wear %d", d.Ops(), d.Down(), d.Next(2), d.Wear(2))
	}
	if e := d.Program(at(2, 2), row(1)); e != api.ErrDown {
		t.Errorf("Program: error %d", e)
	}
}
