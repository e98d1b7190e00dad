package bundle_test

import (
	"bytes"
	"fmt"
	"math"
	"slices"
	"testing"

	"wagtail/api"
	"wagtail/bundle"
)

// numbered are other blocks of those Numbers.
func numbered(numbers ...uint64) []api.Block {
	var l []api.Block
	for i, n := range numbers {
		l = append(l, api.Block{Type: uint64(6 + i%3), Number: n, Flags: uint64(i), Crc: i % 3, Data: "data"[:i%5]})
	}
	return l
}

// adds looks at what becomes of a bundle with a block more.
func adds(t *testing.T, b api.Bundle, x api.Block, number uint64) {
	t.Helper()
	got, e := bundle.With(b, x)
	want := clone(b)
	x.Number = number
	want.Blocks = append(want.Blocks, x)
	if e != api.OK || !alike(got, want) {
		t.Errorf("With(%s, %s) = %s, %d", brief(b), brief(x), brief(got), e)
	}
	may(t, got)
}

// addsNone looks at what is told of a block that can't be there too.
func addsNone(t *testing.T, b api.Bundle, x api.Block, want api.Errno) {
	t.Helper()
	if got, e := bundle.With(b, x); e != want || !alike(got, api.Bundle{}) {
		t.Errorf("With(%s, %s) = %s, %d, not %d alone", brief(b), brief(x), brief(got), e, want)
	}
}

// P11.4: a block of Number 0 has the least one from 2 on that is free: 2, one in a gap, the next one, in whatever order the others are.
func TestWithTheLeastNumber(t *testing.T) {
	for _, c := range []struct {
		there []uint64
		want  uint64
	}{
		{nil, 2}, {[]uint64{3}, 2}, {[]uint64{greatest}, 2}, {[]uint64{5, 4, 3}, 2}, {[]uint64{2}, 3}, {[]uint64{2, 4}, 3}, {[]uint64{4, 2}, 3}, {[]uint64{3, 2}, 4}, {[]uint64{2, 3, 5, 7}, 4}, {[]uint64{7, 5, 3, 2}, 4}, {[]uint64{2, 3, 4, 5}, 6}, {[]uint64{5, 2, 4, 3}, 6}, {[]uint64{greatest, 2, greatest - 1}, 3},
		{[]uint64{2, 3, 4, 5, 6, 7, 8, 9, 10, 11, 12, 13, 14, 15, 16}, 17}, {[]uint64{16, 15, 14, 13, 12, 11, 10, 9, 8, 7, 6, 5, 4, 3, 2}, 17}, {[]uint64{16, 2, 15, 3, 14, 4, 13, 5, 12, 6, 11, 7, 17, 8, 10}, 9}, {[]uint64{1 << 32, 1<<32 + 2, 258, 2, 1 << 63}, 3},
	} {
		for i, p := range fronts() {
			b := api.Bundle{P: p, Blocks: numbered(c.there...), Payload: api.Block{Type: 1, Number: 1, Crc: i % 3, Data: "data"}}
			for kind := range 3 {
				adds(t, b, api.Block{Type: 7, Flags: uint64(i), Crc: kind, Data: "more"}, c.want)
				adds(t, b, api.Block{Type: 0, Crc: kind}, c.want)
			}
		}
	}
	for _, order := range permutations(5) {
		for gone := range 5 {
			l := slices.DeleteFunc(slices.Clone(order), func(n uint64) bool { return n == uint64(gone)+2 })
			adds(t, api.Bundle{P: fronts()[0], Blocks: numbered(l...), Payload: api.Block{Type: 1, Number: 1}}, api.Block{Type: 8}, uint64(gone)+2)
		}
	}
}

// permutations are all orders of so many numbers from 2 on.
func permutations(n int) [][]uint64 {
	if n == 0 {
		return [][]uint64{nil}
	}
	var l [][]uint64
	for _, order := range permutations(n - 1) {
		for at := range n {
			l = append(l, put(order, at, 0, uint64(n)+1))
		}
	}
	return l
}

// P11.4: up to 16 blocks one by one, each behind all others, and no 17th.
func TestWithBlockByBlock(t *testing.T) {
	for _, p := range fronts() {
		b := with(p, 0)
		for i := range 16 {
			adds(t, b, api.Block{Type: 9, Data: "data"[:i%5]}, uint64(i)+2)
			b, _ = bundle.With(b, api.Block{Type: 9, Data: "data"[:i%5]})
		}
		if len(b.Blocks) != 16 {
			t.Fatalf("%d blocks", len(b.Blocks))
		}
		for _, x := range []api.Block{{Type: 9}, {Type: 9, Number: 18}, {Type: 9, Number: 2}, {Type: 1, Number: 1}, {Crc: -1}, {Type: 9, Data: long()}} {
			addsNone(t, b, x, api.ErrBig)
		}
	}
}

// P11.4: a block of a Number that is told: that one, if it is free, the greatest, too; 1, and one that is there already, are ErrForm.
func TestWithANumber(t *testing.T) {
	for _, n := range []int{0, 1, 2, 3, 15} {
		for _, p := range fronts() {
			b := with(p, n)
			for _, number := range append(numbers()[1:], 4, 5, 26, 27, 28) {
				x := api.Block{Type: 7, Number: number, Crc: n % 3, Data: "more"}
				if number == 1 || slices.ContainsFunc(b.Blocks, func(x api.Block) bool { return x.Number == number }) {
					addsNone(t, b, x, api.ErrForm)
				} else {
					adds(t, b, x, number)
				}
			}
		}
	}
}

// P11.4: a block that may not be; what is wrong with the bundle comes ahead of it, or behind.
func TestWithWhatMayNotBe(t *testing.T) {
	wrongBlocks := []struct {
		x api.Block
		e api.Errno
	}{{api.Block{Type: 7, Crc: 3}, api.ErrArg}, {api.Block{Type: 7, Crc: math.MinInt}, api.ErrArg}, {api.Block{Type: 7, Number: 5, Crc: -1, Data: long()}, api.ErrArg}, {api.Block{Type: 7, Data: long()}, api.ErrBig}, {api.Block{Type: 7, Number: greatest, Data: long()}, api.ErrBig}, {api.Block{Type: 1}, api.ErrForm}, {api.Block{Type: 1, Number: 1, Data: "h"}, api.ErrForm}, {api.Block{Type: 7, Number: 1}, api.ErrForm}}
	for _, n := range []int{0, 1, 2, 3} {
		for _, p := range fronts() {
			for _, w := range wrongBlocks {
				addsNone(t, with(p, n), w.x, w.e)
			}
			for _, f := range faults(n) {
				b := with(p, n)
				f.make(&b)
				addsNone(t, b, api.Block{Type: 7, Number: 50}, f.e)
				if f.step < ofForm {
					addsNone(t, b, api.Block{Type: 7, Crc: 3}, f.e)
					addsNone(t, b, api.Block{Type: 1, Number: 1}, f.e)
				} else {
					addsNone(t, b, api.Block{Type: 7, Crc: 3}, api.ErrArg)
					addsNone(t, b, api.Block{Type: 7, Data: long()}, api.ErrBig)
				}
			}
		}
	}
	addsNone(t, api.Bundle{}, api.Block{}, api.ErrArg)
}

// R1: a block more than a list of very many, in order, and backwards, ends, and is told soon.
func TestWithVeryMany(t *testing.T) {
	b := api.Bundle{Blocks: make([]api.Block, 1<<20)}
	for i := range b.Blocks {
		b.Blocks[i].Number = uint64(i) + 2
	}
	addsNone(t, b, api.Block{Type: 7}, api.ErrBig)
	slices.Reverse(b.Blocks)
	addsNone(t, b, api.Block{Type: 7}, api.ErrBig)
	if got := bundle.Without(b, 2); len(got.Blocks) != 1<<20-1 || !bundle.Same(got, api.Bundle{Blocks: b.Blocks[:1<<20-1]}) {
		t.Error(len(got.Blocks))
	}
}

// takes looks at what becomes of a bundle without blocks of a Number.
func takes(t *testing.T, b api.Bundle, number uint64) {
	t.Helper()
	want := api.Bundle{P: b.P, Payload: b.Payload}
	for _, x := range b.Blocks {
		if x.Number != number {
			want.Blocks = append(want.Blocks, x)
		}
	}
	if got := bundle.Without(b, number); !alike(got, want) {
		t.Errorf("Without(%s, %d) = %s, not %s", brief(b), number, brief(got), brief(want))
	}
}

// P11.4: without a Number that none has, one, several, all; that of the Payload takes no Payload away.
func TestWithout(t *testing.T) {
	for _, b := range bundles() {
		for _, number := range append(numbers(), 4, 5, 30, 36) {
			takes(t, b, number)
			may(t, bundle.Without(b, number))
		}
		for _, x := range b.Blocks {
			takes(t, b, x.Number)
		}
	}
	for _, l := range [][]uint64{nil, {5}, {6}, {5, 5}, {5, 6}, {6, 5}, {5, 6, 5}, {6, 5, 6}, {5, 5, 6, 6, 5, 7}, {5, 5, 5, 5, 5}, {1, 0, greatest, 1, 0}, {0, 0}, {1}, slices.Repeat([]uint64{5, 6, 7}, 20)} {
		for _, number := range []uint64{0, 1, 2, 5, 6, 7, greatest} {
			takes(t, api.Bundle{P: fronts()[0], Blocks: numbered(l...), Payload: api.Block{Type: 1, Number: 1, Data: "data"}}, number)
			takes(t, api.Bundle{Blocks: numbered(l...), Payload: api.Block{Type: 9, Number: number, Crc: -1}}, number)
		}
	}
}

// P11.4: a block that was added is gone again without its Number.
func TestWithAndWithout(t *testing.T) {
	for _, b := range bundles() {
		got, e := bundle.With(b, api.Block{Type: 7, Data: "more"})
		if len(b.Blocks) == 16 {
			continue
		}
		back := bundle.Without(got, got.Blocks[len(got.Blocks)-1].Number)
		if e != api.OK || !alike(back, b) || !bundle.Same(back, b) {
			t.Errorf("%s became %s, %d", brief(b), brief(back), e)
		}
	}
}

// blockChanges make each part of a block another one, alone.
func blockChanges() []func(x *api.Block) {
	return []func(x *api.Block){
		func(x *api.Block) { x.Type ^= 1 << 63 },
		func(x *api.Block) { x.Type++ },
		func(x *api.Block) { x.Number ^= 1 << 63 },
		func(x *api.Block) { x.Number-- },
		func(x *api.Block) { x.Flags++ },
		func(x *api.Block) { x.Flags ^= 1 << 63 },
		func(x *api.Block) { x.Crc++ },
		func(x *api.Block) { x.Crc = ^x.Crc },
		func(x *api.Block) { x.Data += "\x00" },
		func(x *api.Block) { x.Data = "x" + x.Data },
	}
}

// frontChanges make each part of a first block another one, alone.
func frontChanges() []func(p *api.Primary) {
	l := []func(p *api.Primary){
		func(p *api.Primary) { p.Flags ^= 1 }, func(p *api.Primary) { p.Flags ^= 4 }, func(p *api.Primary) { p.Flags ^= 1 << 63 }, func(p *api.Primary) { p.Crc++ },
		func(p *api.Primary) { p.Stamp.Time++ }, func(p *api.Primary) { p.Stamp.Seq-- }, func(p *api.Primary) { p.Life++ }, func(p *api.Primary) { p.Offset++ }, func(p *api.Primary) { p.Total-- },
	}
	for _, name := range []func(p *api.Primary) *api.Eid{func(p *api.Primary) *api.Eid { return &p.Dest }, func(p *api.Primary) *api.Eid { return &p.Src }, func(p *api.Primary) *api.Eid { return &p.Rep }} {
		l = append(l, func(p *api.Primary) { name(p).Scheme++ }, func(p *api.Primary) { name(p).Name += "x" }, func(p *api.Primary) { name(p).Node++ }, func(p *api.Primary) { name(p).Service-- })
	}
	return l
}

// P11.4: what is the same with each part alone another one, and each block's place, of bundles that may be, and such as may not.
func TestSame(t *testing.T) {
	is := func(a, b api.Bundle, want bool) {
		t.Helper()
		if got, back := bundle.Same(a, b), bundle.Same(b, a); got != want || back != want {
			t.Errorf("Same(%s, %s) = %t, and turned %t", brief(a), brief(b), got, back)
		}
	}
	for _, b := range append(bundles(), api.Bundle{}, api.Bundle{Blocks: make([]api.Block, 20)}, with(api.Primary{}, 17)) {
		is(b, b, true)
		is(b, clone(b), true)
		for _, change := range frontChanges() {
			c := clone(b)
			change(&c.P)
			is(b, c, false)
		}
		for _, change := range blockChanges() {
			c := clone(b)
			change(&c.Payload)
			is(b, c, false)
			for at := range b.Blocks {
				c := clone(b)
				change(&c.Blocks[at])
				is(b, c, false)
			}
		}
		for at := range b.Blocks {
			c := clone(b)
			c.Blocks[at], c.Blocks[0] = c.Blocks[0], c.Blocks[at]
			is(b, c, c.Blocks[at] == c.Blocks[0])
			c.Blocks = b.Blocks[:at]
			is(b, c, false)
			c.Blocks = put(b.Blocks, at, 1)
			is(b, c, false)
			c.Blocks = put(b.Blocks, at, 0, b.Blocks[at])
			is(b, c, false)
		}
		c := clone(b)
		c.Blocks = append(c.Blocks, api.Block{})
		is(b, c, false)
	}
	is(api.Bundle{Blocks: []api.Block{}}, api.Bundle{}, true)
	is(api.Bundle{P: api.Primary{Flags: 1}, Blocks: []api.Block{{Type: 1}}}, api.Bundle{P: api.Primary{Flags: 1}, Payload: api.Block{Type: 1}}, false)
}

// P11.4: of two bundles that may be, both the same one just if their bytes are.
func TestSameAndBytes(t *testing.T) {
	l := bundles()
	for _, b := range l {
		l = append(l, clone(b))
	}
	rows := make([][]byte, len(l))
	for i, b := range l {
		rows[i] = bytesOfBundle(b)
	}
	for i, a := range l {
		for j, b := range l {
			if got := bundle.Same(a, b); got != bytes.Equal(rows[i], rows[j]) {
				t.Errorf("Same(%s, %s) = %t", brief(a), brief(b), got)
			}
		}
	}
}

// spare is what stands in the spare room of what is handed in.
var spare = api.Block{Type: 1, Number: 7, Crc: 9, Data: "spare"}

// roomy is a bundle with spare room behind its blocks.
func roomy(b api.Bundle) api.Bundle {
	b.Blocks = append(slices.Clone(b.Blocks), spare, spare, spare)[:len(b.Blocks)]
	return b
}

// isKept looks at whether a bundle is as it was, its spare room, too.
func isKept(t *testing.T, what string, got, was api.Bundle) {
	t.Helper()
	n := len(was.Blocks)
	if !alike(got, was) || !slices.Equal(got.Blocks[n:n+3], []api.Block{spare, spare, spare}) {
		t.Errorf("%s: %s became %s", what, brief(was), brief(got.Blocks[:n+3]))
	}
}

// spoil makes all that a bundle's list has another block, its spare room, too.
func spoil(b api.Bundle) {
	all := b.Blocks[:cap(b.Blocks)]
	for at := range all {
		all[at] = api.Block{Type: 99, Data: "spoilt"}
	}
}

// R3: bundles that are handed in are not changed, their spare room neither, and not kept; what is answered is new memory.
func TestBundlesHandedInAreNotChanged(t *testing.T) {
	l := append(bundles(), api.Bundle{}, with(fronts()[0], 17), with(api.Primary{}, 2))
	for _, was := range l {
		for name, do := range map[string]func(b api.Bundle) api.Bundle{
			"Check":           func(b api.Bundle) api.Bundle { bundle.Check(b); return api.Bundle{} },
			"Put":             func(b api.Bundle) api.Bundle { bundle.Put(b); return api.Bundle{} },
			"Key":             func(b api.Bundle) api.Bundle { bundle.Key(b); return api.Bundle{} },
			"Over":            func(b api.Bundle) api.Bundle { bundle.Over(b, 5); return api.Bundle{} },
			"Find":            func(b api.Bundle) api.Bundle { bundle.Find(b, 7); return api.Bundle{} },
			"Same":            func(b api.Bundle) api.Bundle { bundle.Same(b, was); bundle.Same(was, b); return api.Bundle{} },
			"With":            func(b api.Bundle) api.Bundle { c, _ := bundle.With(b, api.Block{Type: 7}); return c },
			"With of 99":      func(b api.Bundle) api.Bundle { c, _ := bundle.With(b, api.Block{Type: 7, Number: 99}); return c },
			"With of 1":       func(b api.Bundle) api.Bundle { c, _ := bundle.With(b, api.Block{Type: 1, Number: 1}); return c },
			"Without of 4":    func(b api.Bundle) api.Bundle { return bundle.Without(b, 4) },
			"Without of 2":    func(b api.Bundle) api.Bundle { return bundle.Without(b, 2) },
			"Without of none": func(b api.Bundle) api.Bundle { return bundle.Without(b, 1) },
		} {
			b := roomy(was)
			got, again := do(b), do(b)
			isKept(t, name, b, was)
			want := clone(got)
			spoil(b)
			spoil(again)
			if !alike(got, want) {
				t.Errorf("%s of %s: %s became %s", name, brief(was), brief(want), brief(got))
			}
			b = roomy(was)
			got = do(b)
			spoil(got)
			isKept(t, name, b, was)
		}
	}
}

// R3: bytes that are handed in are not changed, their spare room neither, and not kept; what is answered is new memory.
func TestBytesHandedInAreNotChanged(t *testing.T) {
	for _, b := range bundles() {
		row := bytesOfBundle(b)
		for _, was := range [][]byte{row, row[:len(row)-1], row[:len(row)/2], put(row, 0, 1, 0), torn(row)} {
			s := append(slices.Clone(was), 255, 255, 1)[:len(was)]
			got, e := bundle.Get(s)
			again, _ := bundle.Get(s)
			if !bytes.Equal(s, was) || !bytes.Equal(s[:len(was)+3][len(was):], []byte{255, 255, 1}) {
				t.Errorf("%x became %x", was, s[:len(was)+3])
			}
			clear(s[:cap(s)])
			spoil(again)
			if e == api.OK != bytes.Equal(was, row) || e == api.OK && !alike(got, b) {
				t.Errorf("%x: %s, %d", was, brief(got), e)
			}
		}
		first, _ := bundle.Put(b)
		second, _ := bundle.Put(b)
		clear(first[:cap(first)])
		if !bytes.Equal(second, row) {
			t.Errorf("%x became %x", row, second)
		}
	}
}

// R4: what is answered hangs on what is handed in, not on what was asked before.
func TestAnswersHangOnArgumentsAlone(t *testing.T) {
	all := append(bundles(), api.Bundle{}, with(fronts()[0], 17), with(api.Primary{}, 2))
	asked := func(i int) string {
		b, next := all[i], all[(i*7+1)%len(all)]
		row, e := bundle.Put(b)
		got, f := bundle.Get(row)
		wrong, g := bundle.Get(torn(bytesOfBundle(b)))
		found, there := bundle.Find(b, uint64(i%9))
		more, h := bundle.With(b, api.Block{Type: uint64(i % 9)})
		return fmt.Sprintf("%q", fmt.Sprintln(bundle.Check(b), row, e, got, f, wrong, g, found, there, more, h, bundle.Without(b, uint64(i%5)), bundle.Key(b), bundle.Over(b, uint64(i)), bundle.Same(b, next)))
	}
	var first []string
	for i := range all {
		first = append(first, asked(i))
	}
	for i := range slices.Backward(all) {
		if got := asked(i); got != first[i] {
			t.Errorf("%s: %s, and then %s", brief(all[i]), first[i], got)
		}
	}
}
