package bundle_test

import (
	"fmt"
	"math/big"
	"slices"
	"testing"

	"wagtail/api"
	"wagtail/bundle"
)

// keyOf tells a key by a way of its own.
func keyOf(p api.Primary) string {
	key := fmt.Sprintf("%d %d %d %d %d %s", p.Src.Scheme, p.Src.Node, p.Src.Service, p.Stamp.Time, p.Stamp.Seq, p.Src.Name)
	if p.Flags%2 == 1 {
		key += fmt.Sprintf(" %d %d", p.Offset, p.Total)
	}
	return key
}

// P11.3: keys that are known: of whole bundles of each scheme, and of fragments, of which Offset and Total stand behind.
func TestKnownKeys(t *testing.T) {
	host := api.Eid{Scheme: 1, Name: "//host/app"}
	when := api.Stamp{Time: 7, Seq: 8}
	for _, c := range []struct {
		p    api.Primary
		want string
	}{
		{api.Primary{}, "0 0 0 0 0 "}, {api.Primary{Src: nobody}, "1 0 0 0 0 "}, {api.Primary{Src: me}, "2 3 4 0 0 "}, {api.Primary{Src: me, Stamp: when}, "2 3 4 7 8 "}, {api.Primary{Src: host, Stamp: when}, "1 0 0 7 8 //host/app"},
		{api.Primary{Src: me, Stamp: when, Flags: 1, Total: 1}, "2 3 4 7 8  0 1"}, {api.Primary{Src: host, Stamp: when, Flags: 1, Offset: 5, Total: 9}, "1 0 0 7 8 //host/app 5 9"}, {api.Primary{Src: host, Stamp: when, Flags: 1<<21 - 1, Offset: greatest - 1, Total: greatest}, "1 0 0 7 8 //host/app 18446744073709551614 18446744073709551615"},
		{api.Primary{Src: me, Flags: 1}, "2 3 4 0 0  0 0"}, {api.Primary{Src: me, Flags: greatest, Offset: greatest, Total: greatest}, "2 3 4 0 0  18446744073709551615 18446744073709551615"}, {api.Primary{Src: me, Flags: 2, Offset: 5, Total: 9}, "2 3 4 0 0 "}, {api.Primary{Src: me, Flags: greatest - 1, Offset: 5, Total: 9}, "2 3 4 0 0 "},
	} {
		for _, n := range []int{0, 3, 17} {
			if got := bundle.Key(with(c.p, n)); got != c.want {
				t.Errorf("Key(%s) = %q, not %q", brief(c.p), got, c.want)
			}
		}
	}
}

// made is what a key is made of.
type made struct {
	src           api.Eid
	at            api.Stamp
	piece         bool
	offset, total uint64
}

// P11.3: keys are unlike if any of what they are made of is, and alike if all of it is, of bundles that may be.
func TestKeysThatAreUnlike(t *testing.T) {
	keys := map[string]made{}
	of := map[made]string{}
	names := []api.Eid{nobody, me, {Scheme: 2}, {Scheme: 2, Node: 34}, {Scheme: 2, Node: 4, Service: 3}, {Scheme: 1, Name: "//a"}, {Scheme: 1, Name: "//a/5"}, {Scheme: 1, Name: "//5"}, {Scheme: 1, Name: "//59"}}
	counts := []uint64{0, 1, 5, 9, 11, 59, 95, greatest - 1, greatest}
	for _, src := range names {
		for _, time := range counts {
			for _, seq := range counts {
				for _, total := range counts {
					for _, offset := range append(counts, 8) {
						p := api.Primary{Flags: 1, Dest: me, Src: src, Rep: me, Stamp: api.Stamp{Time: time, Seq: seq}, Offset: offset, Total: total}
						if offset >= total {
							p.Flags, p.Offset, p.Total = 4, 0, 0
						}
						m := made{src, p.Stamp, p.Flags == 1, p.Offset, p.Total}
						key := bundle.Key(api.Bundle{P: p})
						if other, ok := keys[key]; ok && other != m {
							t.Fatalf("%v and %v have the key %q", other, m, key)
						}
						if other, ok := of[m]; ok && other != key || key != keyOf(p) {
							t.Fatalf("%v has the keys %q, %q, and ought to have %q", m, key, other, keyOf(p))
						}
						keys[key], of[m] = m, key
					}
				}
			}
		}
	}
}

// P11.3: of what a key is not made of it tells nothing.
func TestKeysThatAreAlike(t *testing.T) {
	for _, b := range bundles() {
		want := keyOf(b.P)
		for i, change := range []func(b *api.Bundle){
			func(b *api.Bundle) {},
			func(b *api.Bundle) { b.Blocks = nil },
			func(b *api.Bundle) { b.Blocks = others(17) },
			func(b *api.Bundle) { b.Payload = api.Block{} },
			func(b *api.Bundle) { b.P.Flags ^= greatest - 1 },
			func(b *api.Bundle) { b.P.Crc = -1 },
			func(b *api.Bundle) { b.P.Dest, b.P.Rep = b.P.Rep, api.Eid{} },
			func(b *api.Bundle) { b.P.Life++ },
		} {
			other := clone(b)
			change(&other)
			if got := bundle.Key(other); got != want {
				t.Errorf("change %d: Key(%s) = %q, not %q", i, brief(other), got, want)
			}
		}
	}
}

// P11.3: over is what ends at now, or ahead of it, told by numbers of any size; one below the end, at it, one above, and where it would be above the greatest.
func TestOver(t *testing.T) {
	is := func(b api.Bundle, now uint64) {
		t.Helper()
		end := new(big.Int).Add(new(big.Int).SetUint64(b.P.Stamp.Time), new(big.Int).SetUint64(b.P.Life))
		if most := new(big.Int).SetUint64(greatest); end.Cmp(most) > 0 {
			end = most
		}
		want := end.Cmp(new(big.Int).SetUint64(now)) <= 0
		if got := bundle.Over(b, now); got != want {
			t.Errorf("Over of Time %d, Life %d, at %d: %t", b.P.Stamp.Time, b.P.Life, now, got)
		}
	}
	for _, time := range numbers() {
		for _, life := range numbers() {
			for _, seq := range []uint64{0, 1, greatest} {
				b := api.Bundle{P: api.Primary{Stamp: api.Stamp{Time: time, Seq: seq}, Life: life}, Payload: api.Block{Number: 1}}
				for _, now := range append(numbers(), time, life, time+life, time+life-1, time+life+1) {
					is(b, now)
				}
			}
		}
	}
	b := with(api.Primary{Stamp: api.Stamp{Time: 5}, Life: 3}, 2)
	if bundle.Over(b, 7) || !bundle.Over(b, 8) || !bundle.Over(b, 9) {
		t.Error("Time 5, Life 3, is over at 8")
	}
}

// finds looks at what is found of a Type.
func finds(t *testing.T, b api.Bundle, kind uint64, want api.Block, there bool) {
	t.Helper()
	if got, ok := bundle.Find(b, kind); got != want || ok != there {
		t.Errorf("Find of %d in %s = %s, %t", kind, brief(b), brief(got), ok)
	}
}

// P11.3: the first other block of a Type that none has, that one has, that several have; the Payload is none of them.
func TestFind(t *testing.T) {
	b := with(fronts()[0], 16)
	for at, x := range b.Blocks {
		if at < 7 && at != 3 {
			finds(t, b, x.Type, x, true)
		}
	}
	for _, kind := range []uint64{1, 3, 5, 8, 255, greatest - 1} {
		finds(t, b, kind, api.Block{}, false)
	}
	for i := range 16 {
		c := clone(b)
		for at := range c.Blocks {
			c.Blocks[at].Type = 5
		}
		finds(t, c, 5, c.Blocks[0], true)
		finds(t, c, 6, api.Block{}, false)
		c.Blocks[i].Type = 6
		finds(t, c, 6, c.Blocks[i], true)
		c.Blocks[(i+3)%16].Type = 6
		finds(t, c, 6, c.Blocks[min(i, (i+3)%16)], true)
		c.Blocks = c.Blocks[:i]
		c.Blocks = slices.DeleteFunc(c.Blocks, func(x api.Block) bool { return x.Type == 6 })
		finds(t, c, 6, api.Block{}, false)
	}
	for _, kind := range numbers() {
		finds(t, with(fronts()[1], 0), kind, api.Block{}, false)
		finds(t, api.Bundle{Payload: api.Block{Type: kind, Number: 1}}, kind, api.Block{}, false)
		finds(t, api.Bundle{Blocks: []api.Block{{Type: kind}, {Type: kind, Number: 2}}}, kind, api.Block{Type: kind}, true)
		finds(t, api.Bundle{Blocks: []api.Block{{Type: kind + 1, Number: 2}, {Type: kind, Number: 2, Data: "a"}}}, kind, api.Block{Type: kind, Number: 2, Data: "a"}, true)
	}
}
