package scan_test

import (
	"slices"
	"testing"

	"wagtail/api"
	"wagtail/nand"
	"wagtail/scan"
)

// blanks holds that just these blocks of a device are Blank.
func blanks(t *testing.T, d *nand.Device, want ...int) {
	t.Helper()
	for block := range d.Sides().Blocks {
		if got := scan.Blank(d, block); got != slices.Contains(want, block) {
			t.Fatalf("Blank(%d) = %t", block, got)
		}
	}
}

// P18.3: of a device that is nil, or down, no block can be read, whatever is on it.
func TestBlankOfNoDevice(t *testing.T) {
	d := dark(t)
	for _, block := range append(beside(), row(0, 33)...) {
		if scan.Blank(nil, block) || scan.Blank(d, block) {
			t.Errorf("block %d", block)
		}
	}
	d.Power()
	blanks(t, d, 1, 3, 4, 5, 6)
}

// P18.3: of a new device each block is Blank, the blocks 0 and 1, and those that are marked, too; no other number is a block.
func TestBlankOfANewDevice(t *testing.T) {
	for _, g := range sides() {
		for _, bad := range [][]int{nil, {0, 1}, {2, g.Blocks - 1}, row(0, g.Blocks-1)} {
			d := made(t, g, bad)
			blanks(t, d, row(0, g.Blocks-1)...)
			for _, block := range append(beside(), g.Blocks, g.Blocks+1, 2*g.Blocks, g.Blocks*g.Pages) {
				if scan.Blank(d, block) {
					t.Errorf("%d: Blank(%d)", g, block)
				}
			}
		}
	}
}

// P18.3: a block with one page that is not Blank, whichever it is, and whatever is on it, is not; all others are.
func TestBlankOfOnePage(t *testing.T) {
	for _, g := range []api.Geom{dev(8, 4), dev(34, 5), dev(9, 32)} {
		for _, block := range []int{0, 1, 2, g.Blocks / 2, g.Blocks - 1} {
			for n := range g.Pages {
				for _, s := range sorts(t, 7*n)[1:] {
					r := append(slices.Repeat([]sheet{blank()}, n), s)
					d := filled(t, g, nil, rack{block: r})
					blanks(t, d, slices.DeleteFunc(row(0, g.Blocks-1), func(b int) bool { return b == block })...)
					for d.Next(block) < g.Pages {
						program(t, d, block, blank())
					}
					if scan.Blank(d, block) {
						t.Fatalf("block %d, page %d", block, n)
					}
				}
			}
		}
	}
}

// P18.3: a page of which one bit alone is 0, whichever it is, is not Blank.
func TestBlankOfOneBit(t *testing.T) {
	for bit := range 2048 {
		s := blank()
		s.b[bit/8] ^= 1 << (bit % 8)
		d := filled(t, dev(8, 4), nil, rack{bit % 8: append(slices.Repeat([]sheet{blank()}, bit%4), s)})
		blanks(t, d, slices.DeleteFunc(row(0, 7), func(b int) bool { return b == bit%8 })...)
	}
}

// P18.3: a block whose pages were programmed, but with nothing but 1, is Blank, though it has no next page any more.
func TestBlankOfPagesOfOnes(t *testing.T) {
	for block := range 8 {
		d := filled(t, dev(8, 4), nil, rack{block: slices.Repeat([]sheet{blank()}, 4)})
		if !scan.Blank(d, block) || d.Next(block) != 4 {
			t.Errorf("block %d, next page %d", block, d.Next(block))
		}
	}
}

// P18.3: a block that was erased is Blank again.
func TestBlankOfAnErasedBlock(t *testing.T) {
	for block := range 8 {
		d := filled(t, dev(8, 4), nil, rack{block: sorts(t, 3)[1:5]})
		if scan.Blank(d, block) {
			t.Errorf("block %d", block)
		}
		if e := d.Erase(block); e != api.OK {
			t.Fatalf("error %d", e)
		}
		blanks(t, d, row(0, 7)...)
		program(t, d, block, of(t, api.KData, 1))
		if scan.Blank(d, block) {
			t.Errorf("block %d, programmed anew", block)
		}
	}
}

// P18.3: a block whose erase was torn is Blank just if all its pages are, whatever the erase told.
func TestBlankOfATornErase(t *testing.T) {
	for _, kind := range []int{api.FFail, api.FCut} {
		for _, mask := range masks() {
			d := made(t, dev(8, 4), nil, fault(2, kind, mask...))
			program(t, d, 3, of(t, api.KData, 200))
			program(t, d, 3, sheet{b: make([]byte, 256)})
			d.Erase(3)
			d.Power()
			full := len(mask) > 0 && !slices.ContainsFunc(mask, func(m byte) bool { return m != 255 })
			if got := scan.Blank(d, 3); got != full {
				t.Errorf("kind %d, mask %d: %t", kind, mask, got)
			}
			if !scan.Blank(d, 4) {
				t.Error("block 4")
			}
		}
	}
}

// P18.3: a block of which a program failed, or was cut, is Blank just if no bit was done.
func TestBlankOfATornProgram(t *testing.T) {
	for _, kind := range []int{api.FFail, api.FCut} {
		for _, mask := range masks() {
			d := made(t, dev(8, 4), nil, fault(0, kind, mask...))
			d.Program(at(6, 0), make([]byte, 256))
			d.Power()
			none := !slices.ContainsFunc(mask, func(m byte) bool { return m != 0 })
			if got := scan.Blank(d, 6); got != none {
				t.Errorf("kind %d, mask %d: %t", kind, mask, got)
			}
		}
	}
}
