package primary_test

import (
	"bytes"
	"encoding/hex"
	"math"
	"math/bits"
	"slices"
	"testing"

	"wagtail/api"
	"wagtail/item"
	"wagtail/primary"
)

// P10.1, P10.2: blocks whose bytes are known from elsewhere: one of RFC 9173, the chapter's example, and some whose sums were told by tables, noughts among them.
func TestKnownBlocks(t *testing.T) {
	two := func(node, service uint64) api.Eid { return api.Eid{Scheme: 2, Node: node, Service: service} }
	rfc := api.Primary{Dest: two(1, 2), Src: two(2, 1), Rep: two(2, 1), Stamp: api.Stamp{Seq: 40}, Life: 1000000}
	part := api.Primary{Flags: 1, Dest: me, Src: me, Rep: nobody, Offset: 5, Total: 9}
	none := api.Primary{Flags: 4, Dest: nobody, Src: nobody, Rep: nobody}
	great := api.Primary{Flags: 1<<21 - 5, Dest: api.Eid{Scheme: 1, Name: "//a"}, Src: api.Eid{Scheme: 1, Name: "//host/app"}, Rep: two(greatest, greatest), Stamp: api.Stamp{Time: greatest, Seq: greatest}, Life: greatest, Offset: greatest - 1, Total: greatest}
	asks := api.Primary{Flags: 31<<14 | 32, Dest: api.Eid{Scheme: 1, Name: "//b"}, Src: two(1, 0), Rep: api.Eid{Scheme: 1, Name: "///"}, Stamp: api.Stamp{Time: 1000000000000, Seq: 7}, Life: 86400000}
	for _, c := range []struct {
		digits string
		p      api.Primary
		kind   int
	}{
		{"88070000820282010282028202018202820201820018281a000f4240", rfc, 0}, {"8807000082028201008202820100820282010082000000", api.Primary{Dest: two(1, 0), Src: two(1, 0), Rep: two(1, 0)}, 0}, {"8a070100820282030482028203048201008217181818ff0001", api.Primary{Flags: 1, Dest: me, Src: me, Rep: nobody, Stamp: api.Stamp{Time: 23, Seq: 24}, Life: 255, Total: 1}, 0},
		{"89070001820282010282028202018202820201820018281a000f424042b16f", rfc, 1}, {"89070002820282010282028202018202820201820018281a000f42404483fc981b", rfc, 2}, {"8b0701018202820304820282030482010082000000050942502e", part, 1}, {"8b070102820282030482028203048201008200000005094478290b39", part, 2}, {"8b0701018201008202820501820100820501030509420000", api.Primary{Flags: 1, Dest: nobody, Src: two(5, 1), Rep: nobody, Stamp: api.Stamp{Time: 5, Seq: 1}, Life: 3, Offset: 5, Total: 9}, 1}, {"890704018201008201008201008200000042b45e", none, 1}, {"89070402820100820100820100820000004475d95901", none, 2},
		{"8b071a001ffffb018201632f2f6182016a2f2f686f73742f6170708202821bffffffffffffffff1bffffffffffffffff821bffffffffffffffff1bffffffffffffffff1bffffffffffffffff1bfffffffffffffffe1bffffffffffffffff42bdee", great, 1}, {"8b071a001ffffb028201632f2f6182016a2f2f686f73742f6170708202821bffffffffffffffff1bffffffffffffffff821bffffffffffffffff1bffffffffffffffff1bffffffffffffffff1bfffffffffffffffe1bffffffffffffffff44100b93d2", great, 2},
		{"89071a0007c020018201632f2f6282028201008201632f2f2f821b000000e8d4a51000071a05265c00429d26", asks, 1}, {"89071a0007c020028201632f2f6282028201008201632f2f2f821b000000e8d4a51000071a05265c0044de13b065", asks, 2},
	} {
		c.p.Crc = c.kind
		want, f := hex.DecodeString(c.digits)
		if row, e := primary.Put(c.p); f != nil || e != api.OK || !bytes.Equal(row, want) {
			t.Errorf("%s: %v, Put is %x, %d", c.digits, f, row, e)
		}
		v, e := item.Whole(want)
		if e != api.OK {
			t.Errorf("%s: %d", c.digits, e)
		}
		isBlock(t, v, c.p)
		may(t, c.p)
	}
}

// P10.1, P10.4: blocks that may be, with the bytes of their value, there and back again, through the bytes, too; no two blocks have the same bytes.
func TestBlocksThatMayBe(t *testing.T) {
	seen := map[string]api.Primary{}
	for _, p := range blocks() {
		may(t, p)
		row, _ := primary.Put(p)
		v, e := item.Whole(row)
		if e != api.OK {
			t.Errorf("%s: %d", brief(p), e)
		}
		isBlock(t, v, p)
		if other, ok := seen[string(row)]; ok && other != p {
			t.Errorf("%s has the bytes of %s", brief(p), brief(other))
		}
		seen[string(row)] = p
	}
}

// P10.1: kinds of sums below 0, and above 2, of blocks that may be but for that.
func TestKindsThatMayNotBe(t *testing.T) {
	mayNot(t, api.Primary{}, api.ErrArg)
	for _, p := range little() {
		for _, p.Crc = range otherKinds() {
			mayNot(t, p, api.ErrArg)
		}
	}
}

// P10.1: names that may be, and such as may not, each alone as Dest, as Src and as Rep.
func TestNames(t *testing.T) {
	for _, p := range little() {
		for _, e := range append(names(), nobody) {
			q := p
			q.Dest = e
			may(t, q)
			q.Dest, q.Rep = p.Dest, e
			may(t, q)
			if q.Rep = p.Rep; e != nobody {
				q.Src = e
				may(t, q)
			}
		}
		for _, e := range wrongNames() {
			q := p
			q.Dest = e
			mayNot(t, q, api.ErrArg)
			q.Dest, q.Src = p.Dest, e
			mayNot(t, q, api.ErrArg)
			q.Src, q.Rep = p.Src, e
			mayNot(t, q, api.ErrArg)
		}
	}
}

// flagged tells by the chapter's words what is wrong with flags, of a block that is else as it may be with them.
func flagged(flags uint64, src api.Eid) api.Errno {
	there := func(at int) bool { return flags>>at%2 == 1 }
	if bits.Len64(flags) > 21 {
		return api.ErrArg
	}
	if there(0) && there(2) {
		return api.ErrForm
	}
	if src == nobody && (!there(2) || there(0) || there(14) || there(15) || there(16) || there(17) || there(18)) {
		return api.ErrForm
	}
	return api.OK
}

// P10.1: Flags 0, each bit alone, and beside each other one, up to the greatest; of somebody's and nobody's, whole and in pieces.
func TestFlags(t *testing.T) {
	all := []uint64{0, 1<<21 - 1, 1<<21 - 2, 1<<21 - 5, 1<<21 - 6, 1 << 21, 1<<21 + 1, 1<<21 + 4, 1<<32 + 4, greatest, greatest - 1, greatest - 4, greatest - 5}
	for bit := range 64 {
		for other := range 64 {
			all = append(all, 1<<bit|1<<other, 1<<bit|1<<other|4, 1<<bit|1<<other|1)
		}
	}
	for _, flags := range all {
		for _, src := range []api.Eid{me, nobody, {Scheme: 1, Name: "//none"}, {Scheme: 2}} {
			p := api.Primary{Flags: flags, Crc: int(flags % 3), Dest: me, Src: src, Rep: me, Total: flags % 2}
			isEither(t, p, flagged(flags, src))
		}
	}
}

// P10.1: all that the bits that matter can be together, and some that do not.
func TestFlagsTogether(t *testing.T) {
	matter := []int{0, 1, 2, 5, 13, 14, 15, 16, 17, 18, 19, 20, 21}
	for n := range 1 << len(matter) {
		flags := uint64(0)
		for i, at := range matter {
			flags |= uint64(n>>i%2) << at
		}
		for _, src := range []api.Eid{me, nobody} {
			want := flagged(flags, src)
			p := api.Primary{Flags: flags, Dest: me, Src: src, Rep: me, Total: flags % 2}
			if e := primary.Check(p); e != want {
				t.Errorf("Check(%s) = %d, not %d", brief(p), e, want)
			}
			if p.Total = 1 - p.Total; want != api.ErrArg {
				mayNot(t, p, api.ErrForm)
			}
		}
	}
}

// P10.1: without bit 0 each Offset and Total that is not 0; with it Offset below, at and above Total, up to the greatest of both.
func TestOffsetsAndTotals(t *testing.T) {
	for _, offset := range numbers() {
		for _, total := range append(numbers(), offset, offset+1, offset-1) {
			for flags := range uint64(8) {
				p := api.Primary{Flags: flags, Crc: int(flags % 3), Dest: me, Src: me, Rep: me, Offset: offset, Total: total}
				want := api.ErrForm
				switch flags % 2 {
				case 0:
					if offset == 0 && total == 0 {
						want = api.OK
					}
				case 1:
					if offset < total && flags&4 == 0 {
						want = api.OK
					}
				}
				isEither(t, p, want)
				p.Src = nobody
				if flags&4 == 0 || want != api.OK {
					mayNot(t, p, api.ErrForm)
				} else {
					may(t, p)
				}
			}
		}
	}
}

// P10.1: nobody's as Dest and Rep ask for no bit.
func TestNobodyElsewhere(t *testing.T) {
	for _, flags := range []uint64{0, 1, 2, 4, 31 << 14, 31<<14 | 1, 31<<14 | 4, 1<<21 - 5} {
		may(t, api.Primary{Flags: flags, Dest: nobody, Src: me, Rep: nobody, Total: flags % 2})
	}
}

// P10.1: stamps and lives of all widths, each of them.
func TestStampsAndLives(t *testing.T) {
	for _, p := range little() {
		for _, n := range numbers() {
			for _, m := range numbers() {
				q := p
				q.Stamp, q.Life = api.Stamp{Time: n, Seq: m}, n
				may(t, q)
				q.Stamp, q.Life = p.Stamp, m
				may(t, q)
			}
		}
	}
}

// P10.1: what is ErrArg is told ahead of what is ErrForm, alone and together.
func TestSeveralWrongAtOnce(t *testing.T) {
	forms := []func(p *api.Primary){
		func(p *api.Primary) { p.Flags |= 5 },
		func(p *api.Primary) { p.Flags &^= 1; p.Offset = 1 },
		func(p *api.Primary) { p.Flags &^= 1; p.Total = greatest },
		func(p *api.Primary) { p.Flags |= 1; p.Offset = p.Total },
		func(p *api.Primary) { p.Flags |= 1; p.Offset, p.Total = greatest, 0 },
		func(p *api.Primary) { p.Src, p.Flags = nobody, p.Flags&^4 },
		func(p *api.Primary) { p.Src, p.Flags = nobody, p.Flags|1<<16 },
	}
	args := []func(p *api.Primary){
		func(p *api.Primary) { p.Crc = 3 },
		func(p *api.Primary) { p.Crc = math.MinInt },
		func(p *api.Primary) { p.Dest = api.Eid{} },
		func(p *api.Primary) { p.Rep = api.Eid{Scheme: 1, Name: "//"} },
		func(p *api.Primary) { p.Src = api.Eid{Scheme: 1, Node: 1} },
		func(p *api.Primary) { p.Flags |= 1 << 21 },
		func(p *api.Primary) { p.Flags |= 1 << 63 },
	}
	for _, p := range little() {
		for _, form := range forms {
			q := p
			form(&q)
			mayNot(t, q, api.ErrForm)
			for _, arg := range args {
				r := q
				arg(&r)
				mayNot(t, r, api.ErrArg)
				for _, other := range args {
					s := r
					other(&s)
					mayNot(t, s, api.ErrArg)
				}
			}
		}
	}
}

// looked are blocks that may be, and such as may not.
func looked() []api.Primary {
	l := append(blocks(), api.Primary{}, api.Primary{Flags: greatest, Crc: -1, Src: api.Eid{Scheme: 3}, Offset: 9, Total: 5}, api.Primary{Flags: greatest - 1, Offset: greatest, Total: greatest}, api.Primary{Flags: 1}, api.Primary{Flags: 5, Offset: 1, Total: 1}, api.Primary{Flags: 2, Offset: 1}, api.Primary{Total: 7})
	for bit := range 64 {
		l = append(l, api.Primary{Flags: 1 << bit, Dest: me, Src: nobody, Rep: me, Offset: 3, Total: 7})
	}
	return l
}

// P10.3: whether it is a fragment's hangs on bit 0 alone, of blocks that may be, and of such as may not.
func TestFragment(t *testing.T) {
	for _, p := range looked() {
		if got := primary.Fragment(p); got != (p.Flags%2 == 1) {
			t.Errorf("Fragment(%s) = %t", brief(p), got)
		}
	}
}

// P10.3: Whole takes bit 0, Offset and Total away, and nothing else; that of a fragment that may be may be, too.
func TestWhole(t *testing.T) {
	for _, p := range looked() {
		want := api.Primary{Flags: p.Flags / 2 * 2, Crc: p.Crc, Dest: p.Dest, Src: p.Src, Rep: p.Rep, Stamp: p.Stamp, Life: p.Life}
		got := primary.Whole(p)
		if got != want || primary.Whole(got) != want || primary.Fragment(got) {
			t.Errorf("Whole(%s) = %s", brief(p), brief(got))
		}
		if primary.Check(p) == api.OK {
			may(t, got)
		}
	}
}

// P10.3: what is the same with each field alone another one: Src, stamp, Total and bit 0 count, and nothing else.
func TestSame(t *testing.T) {
	counts := []func(p *api.Primary){
		func(p *api.Primary) { p.Src.Scheme++ },
		func(p *api.Primary) { p.Src.Name += "x" },
		func(p *api.Primary) { p.Src.Node++ },
		func(p *api.Primary) { p.Src.Service-- },
		func(p *api.Primary) { p.Stamp.Time ^= 1 << 63 },
		func(p *api.Primary) { p.Stamp.Seq ^= 1 },
		func(p *api.Primary) { p.Stamp.Time, p.Stamp.Seq = p.Stamp.Time+1, p.Stamp.Seq-1 },
		func(p *api.Primary) { p.Total++ },
		func(p *api.Primary) { p.Total ^= 1 << 63 },
		func(p *api.Primary) { p.Flags ^= 1 },
	}
	others := []func(p *api.Primary){
		func(p *api.Primary) {},
		func(p *api.Primary) { p.Flags ^= 4 },
		func(p *api.Primary) { p.Flags ^= greatest - 1 },
		func(p *api.Primary) { p.Crc++ },
		func(p *api.Primary) { p.Dest.Node++ },
		func(p *api.Primary) { p.Dest = api.Eid{Scheme: 1, Name: "//other"} },
		func(p *api.Primary) { p.Rep.Service++ },
		func(p *api.Primary) { p.Rep = api.Eid{} },
		func(p *api.Primary) { p.Life++ },
		func(p *api.Primary) { p.Offset++ },
		func(p *api.Primary) { p.Offset = greatest - p.Offset },
	}
	is := func(a, b api.Primary, want bool) {
		t.Helper()
		if got, back := primary.Same(a, b), primary.Same(b, a); got != want || back != want {
			t.Errorf("Same(%s, %s) = %t, and turned %t", brief(a), brief(b), got, back)
		}
	}
	for _, p := range looked() {
		for _, other := range others {
			q := p
			other(&q)
			is(p, q, true)
			for _, count := range counts {
				r := q
				count(&r)
				is(p, r, false)
			}
		}
		is(p, primary.Whole(p), p.Flags%2 == 0 && p.Total == 0)
	}
}

// P10.3: a fragment of all that may be is of one bundle with each other one of it, and with no other bundle's.
func TestSameOfFragments(t *testing.T) {
	var l []api.Primary
	for _, src := range names() {
		for offset := range uint64(3) {
			for total := offset + 1; total < 4; total++ {
				l = append(l, api.Primary{Flags: 1, Dest: me, Src: src, Rep: nobody, Offset: offset, Total: total})
			}
		}
		l = append(l, api.Primary{Dest: me, Src: src, Rep: nobody}, api.Primary{Flags: 4, Dest: me, Src: src, Rep: me, Life: 5})
	}
	for _, a := range l {
		for _, b := range l {
			if got := primary.Same(a, b); got != (a.Src == b.Src && a.Total == b.Total) {
				t.Errorf("Same(%s, %s) = %t", brief(a), brief(b), got)
			}
		}
	}
}

// R3: what is answered is new memory: no other answer hangs on what becomes of it.
func TestBytesAreNewMemory(t *testing.T) {
	for _, p := range little() {
		first, _ := primary.Put(p)
		second, _ := primary.Put(p)
		_ = append(first, "more"...)
		clear(first[:cap(first)])
		if !bytes.Equal(second, bytesOf(valueOf(p))) {
			t.Errorf("%s: %x", brief(p), second)
		}
		may(t, p)
	}
}

// R4: what is answered hangs on what is handed in, not on what was asked before.
func TestAnswersHangOnArgumentsAlone(t *testing.T) {
	all := looked()
	asked := func(i int) []any {
		p, next := all[i], all[(i*7+1)%len(all)]
		row, e := primary.Put(p)
		got, f := primary.Get(valueOf(p))
		wrong, g := primary.Get(with(valueOf(p), 4, valueOf(next)[3]))
		none, h := primary.Get(with(valueOf(p), 7, nil))
		return []any{primary.Check(p), string(row), e, got, f, wrong, g, none, h, primary.Fragment(p), primary.Whole(p), primary.Same(p, next)}
	}
	var first [][]any
	for i := range all {
		first = append(first, asked(i))
	}
	for i := range slices.Backward(all) {
		if got := asked(i); !slices.Equal(got, first[i]) {
			t.Errorf("%s: %s, and then %s", brief(all[i]), brief(first[i]), brief(got))
		}
	}
}
