package frag_test

import (
	"slices"
	"testing"

	"wagtail/api"
	"wagtail/frag"
)

// P12.3: each three fragments of Total 3 with bytes of two kinds, holes, unlike bytes and some beyond Total among them, as they are byte by byte; what is answered has what the first one of Offset 0 has.
func TestJoinOfThree(t *testing.T) {
	texts := []string{""}
	for at := 0; len(texts[at]) < 3; at++ {
		texts = append(texts, texts[at]+"a", texts[at]+"b")
	}
	var some [3][]api.Bundle
	for mark := range some {
		for offset := range uint64(3) {
			for _, text := range texts {
				some[mark] = append(some[mark], marked(mark, text, offset, 3))
			}
		}
	}
	for _, a := range some[0] {
		joinsAs(t, []api.Bundle{a})
		for _, b := range some[1] {
			joinsAs(t, []api.Bundle{a, b})
			for _, c := range some[2] {
				joinsAs(t, []api.Bundle{a, b, c})
			}
		}
	}
}

// P12.3: each three fragments of the same six bytes, with one byte of one of them another one, or none.
func TestJoinOfThreeWithOneByteUnlike(t *testing.T) {
	var some []api.Bundle
	for offset := range uint64(6) {
		for n := uint64(1); offset+n <= 6; n++ {
			some = append(some, marked(0, data(6)[offset:offset+n], offset, 6))
		}
	}
	for _, a := range some {
		for _, b := range some {
			for _, c := range some {
				l := []api.Bundle{a, b, c}
				joinsAs(t, l)
				for at, x := range l {
					for i := range len(x.Payload.Data) {
						l[at].Payload.Data = x.Payload.Data[:i] + "x" + x.Payload.Data[i+1:]
						joinsAs(t, l)
					}
					l[at] = x
				}
			}
		}
	}
}

// P12.3: fragments that lie over one another: the same bytes go together, unlike ones do not, at the first such place, at the last, and at each between; what lies under one alone counts.
func TestJoinOverOneAnother(t *testing.T) {
	text := data(400)
	for _, c := range [][][2]int{
		{{0, 300}, {100, 400}}, {{0, 400}, {100, 300}}, {{0, 400}, {0, 400}}, {{0, 300}, {50, 60}, {200, 400}}, {{0, 300}, {300, 400}, {299, 301}}, {{0, 200}, {0, 100}, {100, 300}, {150, 400}},
	} {
		var l []api.Bundle
		for mark, span := range c {
			l = append(l, marked(mark, text[span[0]:span[1]], uint64(span[0]), 400))
		}
		for _, order := range orders(l) {
			joinsAs(t, order)
			for _, place := range []int{0, 1, 49, 50, 51, 59, 60, 99, 100, 101, 149, 150, 199, 200, 298, 299, 300, 301, 399} {
				for at, x := range order {
					i := place - int(x.P.Offset)
					if i < 0 || i >= len(x.Payload.Data) {
						continue
					}
					m := slices.Clone(order)
					m[at].Payload.Data = x.Payload.Data[:i] + "\x01" + x.Payload.Data[i+1:]
					joinsAs(t, m)
				}
			}
		}
	}
	l := []api.Bundle{marked(0, "abcd", 0, 6), marked(1, "cdef", 2, 6)}
	want := marked(0, "abcdef", 0, 6)
	want.P.Flags, want.P.Total = want.P.Flags-1, 0
	joins(t, l, want)
	for at, texts := range [][]string{{"abxd", "abcx", "abxx"}, {"xdef", "cxef", "xxef"}} {
		for _, text := range texts {
			m := slices.Clone(l)
			m[at].Payload.Data = text
			for _, order := range orders(m) {
				joinsNot(t, order, api.ErrForm)
			}
		}
	}
}

// P12.3: with a hole at the beginning, in the middle, at the end, of one byte and more; unlike bytes are told ahead of it, wherever they are.
func TestJoinWithHoles(t *testing.T) {
	for _, b := range wholes(12) {
		for size := 1; size < 6; size++ {
			l := must(t, b, size)
			for at := range l {
				for _, order := range orders(slices.Delete(slices.Clone(l), at, at+1)) {
					joinsNot(t, order, api.ErrNone)
				}
				for _, text := range []string{l[at].Payload.Data[1:], ""} {
					m := slices.Clone(l)
					m[at].Payload.Data = text
					if text != "" {
						m[at].P.Offset++
					}
					joinsNot(t, m, api.ErrNone)
				}
				m := slices.Clone(l)
				m[at].Payload.Data = m[at].Payload.Data[:len(m[at].Payload.Data)-1]
				joinsNot(t, m, api.ErrNone)
				for other := range l {
					if other != at {
						u := l[other]
						u.Payload.Data = u.Payload.Data[:len(u.Payload.Data)-1] + "\xff"
						joinsNot(t, append(slices.Clone(m), u), api.ErrForm)
						joinsNot(t, slices.Insert(slices.Clone(m), 0, u), api.ErrForm)
					}
				}
			}
		}
	}
	joinsNot(t, []api.Bundle{marked(0, "a", 0, 3), marked(1, "c", 2, 3)}, api.ErrNone)
	joinsNot(t, []api.Bundle{marked(0, "", 0, 1)}, api.ErrNone)
	joinsNot(t, []api.Bundle{marked(0, "ab", 0, 3), marked(1, "bc", 1, 4)}, api.ErrForm)
}

// P12.3: of several of Offset 0 the first one counts, whichever that is, without data, too; its blocks, and its Payload's Flags and Crc.
func TestJoinOfSeveralFirstOnes(t *testing.T) {
	l := []api.Bundle{marked(4, "abc", 0, 9), marked(1, "", 0, 9), marked(2, "abcdefg", 0, 9), marked(3, "cdefghi", 2, 9), marked(0, "a", 0, 9)}
	for _, order := range orders(l) {
		joinsAs(t, order)
		got, e := frag.Join(order...)
		at := slices.IndexFunc(order, func(b api.Bundle) bool { return b.P.Offset == 0 })
		if e != api.OK || got.P.Life != order[at].P.Life || got.P.Dest != order[at].P.Dest || !slices.Equal(got.Blocks, order[at].Blocks) || got.Payload.Flags != order[at].Payload.Flags || got.Payload.Crc != order[at].Payload.Crc || got.Payload.Data != "abcdefghi" {
			t.Errorf("Join(%s) = %s, %d", brief(order), brief(got), e)
		}
	}
}

// P12.3: of very many of Offset 0, among others, the first one counts.
func TestJoinOfVeryManyFirstOnes(t *testing.T) {
	var l []api.Bundle
	for mark := range 100 {
		offset := mark % 3 / 2
		l = append(l, marked(mark%17, "abc"[offset:], uint64(offset), 3))
		l[mark].P.Life = uint64(1000 + mark)
	}
	for _, order := range orders(l) {
		joinsAs(t, order)
	}
}

// P12.3: pieces that are there twice, all or some, in each order.
func TestJoinOfPiecesTwice(t *testing.T) {
	for _, b := range wholes(7) {
		l := must(t, b, 3)
		for at := range l {
			for _, order := range orders(append(slices.Clone(l), l[at])) {
				joins(t, order, b)
			}
			for _, order := range orders([]api.Bundle{l[at], l[(at+1)%3], l[at], l[at]}) {
				joinsNot(t, order, api.ErrNone)
			}
		}
		joins(t, slices.Repeat(l, 5), b)
	}
}

// R1: very many fragments, in whatever order, and the same one again and again, are told soon.
func TestJoinOfVeryMany(t *testing.T) {
	text := data(api.MaxText)
	var l []api.Bundle
	for i := range text {
		l = append(l, marked(0, text[i:i+1], uint64(i), api.MaxText))
	}
	joinsAs(t, l)
	slices.Reverse(l)
	joinsAs(t, l)
	for i := range l {
		j := i * 40503 % len(l)
		l[i], l[j] = l[j], l[i]
	}
	joinsAs(t, l)
	joinsNot(t, l[1:], api.ErrNone)
	l[5].Payload.Data = "ab"
	if l[5].P.Offset+1 < api.MaxText {
		joinsNot(t, l, api.ErrForm)
	}
	joinsNot(t, slices.Repeat([]api.Bundle{marked(1, "ab", 1, 3)}, 1<<17), api.ErrNone)
	joinsNot(t, make([]api.Bundle, 1<<20), api.ErrArg)
	joinsNot(t, slices.Repeat([]api.Bundle{with(fronts()[0], 0, 3)}, 1<<17), api.ErrForm)
}
