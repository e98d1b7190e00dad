package scan_test

import (
	"slices"
	"strings"
	"testing"

	"wagtail/api"
)

// P18.2: of a device that is nil, or down, the error is nand.Read's, whether there is such a page or not.
func TestDataOfNoDevice(t *testing.T) {
	d := dark(t)
	places := []api.Place{at(0, 0), at(1, 3), at(2, 0), at(6, 0), at(7, 3), at(8, 0), at(2, 4)}
	for _, n := range beside() {
		places = append(places, at(n, 0), at(2, n), at(n, n))
	}
	for _, p := range places {
		noData(t, nil, p, api.ErrNil)
		noData(t, d, p, api.ErrDown)
	}
	d.Power()
	holds(t, d, darkRack(t))
}

// P18.2: beside all pages there is none, however far.
func TestDataOfPlacesBeside(t *testing.T) {
	for _, g := range sides() {
		d := filled(t, g, nil, rack{2: {of(t, api.KData, 9)}, g.Blocks - 1: {of(t, api.KData, 8)}})
		for _, n := range append(beside(), g.Blocks, g.Blocks+1, g.Blocks*2) {
			for m := range g.Pages {
				noData(t, d, at(n, m), api.ErrRange)
			}
		}
		for _, n := range append(beside(), g.Pages, g.Pages+1, g.Pages*2) {
			for block := range g.Blocks {
				noData(t, d, at(block, n), api.ErrRange)
			}
			for _, m := range beside() {
				noData(t, d, at(m, n), api.ErrRange)
			}
		}
	}
}

// P18.2: heads and data at their edges are told as they were programmed, on each block.
func TestDataOfHeadsAtTheirEdges(t *testing.T) {
	most := uint64(1<<31 - 1)
	bytes := make([]byte, api.Payload)
	for i := range bytes {
		bytes[i] = byte(i*7 + 3)
	}
	datas := []string{"", "\x00", "\xff", "h", string(bytes), strings.Repeat("\xff", 228), strings.Repeat("\x00", 228), string(bytes[:227])}
	heads := []api.Head{
		{Kind: 1, Count: 1},
		{Kind: 2, Count: 1},
		{Kind: 5, Index: 15, Count: 16, Batch: most, Open: most, Lpn: 65535},
		{Kind: 3, Index: 2, Count: 14, Batch: 0x01020304, Open: 0x05060708, Lpn: 0x1122},
		{Kind: 4, Count: 16, Batch: most, Lpn: 65535},
		{Kind: 4, Count: 1, Open: most, Lpn: 1},
	}
	for block := range 8 {
		r := rack{}
		for _, h := range heads {
			for _, data := range datas {
				if len(r[block]) < 32 {
					r[block] = append(r[block], right(t, h, data))
				}
			}
		}
		holds(t, filled(t, dev(8, 32), nil, r), r)
		last := r[block][len(r[block])-1]
		holds(t, filled(t, dev(8, 4), nil, rack{block: {last}}), rack{block: {last}})
	}
}

// P18.2: a page that was programmed, written out.
func TestDataWrittenOut(t *testing.T) {
	b := make([]byte, 27)
	copy(b, []byte{4, 0, 1, 0, 0, 0, 0, 0, 0, 0, 0, 7, 0, 0, 0, 0, 0, 0, 0, 3, 0, 9, 0, 3, 'x', 'y', 'z'})
	b = append(b, slices.Repeat([]byte{255}, 225)...)
	// Of 216 bits ahead of the bytes of 255 those of the head that are 1 are 11, those of xyz 4, 5 and 5.
	b = append(b, 0, 0, 0, 191)
	d := made(t, dev(8, 4), nil)
	program(t, d, 3, sheet{b: b})
	holdsData(t, d, at(3, 0), sheet{h: api.Head{Kind: api.KMeta, Count: 1, Batch: 7, Open: 3, Lpn: 9, Len: 3}, data: "xyz"})
	if l := all(t, d); len(l) != 1 || l[0] != (api.Found{At: at(3, 0), H: api.Head{Kind: api.KMeta, Count: 1, Batch: 7, Open: 3, Lpn: 9, Len: 3}}) {
		t.Errorf("%v", l)
	}
}

// P18.2: of a page that is Blank, whether it was programmed or not: ErrNone; of one that is Torn: ErrForm; of a table's: its head and data; on the blocks 0 and 1, too.
func TestDataOfEachSort(t *testing.T) {
	for block := range 8 {
		for mark, x := range torns(t) {
			r := rack{block: {x, blank(), known(t, mark), x}}
			d := filled(t, dev(8, 4), nil, r)
			noData(t, d, at(block, 0), api.ErrForm)
			noData(t, d, at(block, 1), api.ErrNone)
			holdsData(t, d, at(block, 2), known(t, mark))
			noData(t, d, at((block+1)%8, 0), api.ErrNone)
			holds(t, d, r)
		}
	}
}

// P18.2: a page of which any one bit is another one is ErrForm.
func TestDataOfAnyBitTurned(t *testing.T) {
	x := of(t, api.KMeta, 30)
	for from := 0; from < 2048; from += 128 {
		r := rack{}
		for bit := from; bit < from+128; bit++ {
			b := slices.Clone(x.b)
			b[bit/8] ^= 1 << (bit % 8)
			r[bit%4] = append(r[bit%4], torn(t, b))
		}
		holds(t, filled(t, dev(8, 32), nil, r), r)
	}
}

// P18.2: the pages of a block that is marked are read like others, and are Blank.
func TestDataOfMarkedBlocks(t *testing.T) {
	d := made(t, dev(8, 4), []int{0, 2, 7})
	for _, block := range []int{0, 2, 7} {
		for n := range 4 {
			noData(t, d, at(block, n), api.ErrNone)
		}
		noData(t, d, at(block, 4), api.ErrRange)
	}
}
