package page_test

import (
	"bytes"
	"slices"
	"testing"

	"wagtail/api"
	"wagtail/page"
	"wagtail/zeros"
)

// masks are masks that are empty, shorter than a page, as long as one, and longer; with few bits, and with most.
func masks() [][]byte {
	l := [][]byte{nil, {}, {0}, {255}, {15}, {240}, {1}, {128}, {254}, {255, 0}, {0, 255, 1}, {1, 2, 4, 8, 16, 32, 64, 128}}
	x := dice(4)
	for spread := -6; spread < 7; spread++ {
		for _, n := range []int{7, 24, 252, 255, 256, 257, 600} {
			l = append(l, x.bytes(n, spread))
		}
	}
	head := append(bytes.Repeat([]byte{255}, 24), make([]byte, 232)...)
	data := slices.Concat(make([]byte, 24), bytes.Repeat([]byte{255}, 228), make([]byte, 4))
	count := append(make([]byte, 252), 255, 255, 255, 255)
	return append(l, head, data, count, slices.Concat(head, count), bytes.Repeat([]byte{255}, 252), slices.Concat(make([]byte, 256), blank()))
}

// many are pages of all looks: with few bits that are 0, and with most.
func many(t *testing.T) [][]byte {
	t.Helper()
	l := pages(t)
	x := dice(154)
	for i := range 60 {
		h := x.head()
		l = append(l, put(t, h, string(x.bytes(h.Len, i%9-4))))
	}
	return l
}

// untold tells whether bytes that cover a page, and are others, are taken for one.
func untold(t *testing.T, b, was []byte) {
	t.Helper()
	if !zeros.Covers(b, was) {
		t.Fatalf("%d does not cover %d", b, was)
	}
	if bytes.Equal(b, was) {
		if page.Class(b) != page.Right {
			t.Fatalf("%d is of class %d", b, page.Class(b))
		}
		return
	}
	h, data, e := page.Get(b)
	if page.Class(b) == page.Right || e == api.OK || h != (api.Head{}) || data != "" {
		t.Fatalf("%d covers %d, and is of class %d, %v, %q, error %d", b, was, page.Class(b), h, data, e)
	}
	if again, e := page.Reopen(b, 1); e != api.ErrForm || len(again) != 0 {
		t.Fatalf("%d covers %d, and is opened again, error %d", b, was, e)
	}
	if n := page.Classes(b, was, b); n[page.Right] != 1 {
		t.Fatalf("%d covers %d, and they are %d", b, was, n)
	}
}

// P15.4: each page with one bit more is none.
func TestOneBitMore(t *testing.T) {
	for _, was := range many(t) {
		for k := range was {
			for i := range 8 {
				b := slices.Clone(was)
				if b[k] |= 1 << i; b[k] == was[k] {
					continue
				}
				if page.Class(b) != page.Torn {
					t.Fatalf("%d with bit %d of %d is of class %d", was, i, k, page.Class(b))
				}
			}
		}
	}
}

// P15.4: each page with one bit more of what is counted, and one or two more of the count, is none.
func TestBitsMoreHereAndInTheCount(t *testing.T) {
	for _, was := range pages(t)[:12] {
		for _, k := range []int{0, 1, 2, 3, 7, 11, 15, 19, 20, 21, 22, 23, 24, 100, 251} {
			for i := range 8 {
				for first := range 32 {
					for _, second := range []int{first, 0, 7, 8, 31} {
						b := slices.Clone(was)
						b[k] |= 1 << i
						b[252+first/8] |= 1 << (first % 8)
						b[252+second/8] |= 1 << (second % 8)
						if !bytes.Equal(b, was) && page.Class(b) == page.Right {
							t.Fatalf("%d covers %d, and is Right", b, was)
						}
					}
				}
			}
		}
	}
}

// P15.4: what a program on a blank page leaves, whatever the mask: the page, or none.
func TestProgramsCut(t *testing.T) {
	all := masks()
	for _, was := range many(t) {
		for _, m := range all {
			untold(t, zeros.Program(zeros.Ones(256), was, m), was)
		}
	}
}

// P15.4: what an erase leaves of a page, whatever the mask: the page, or none; and another erase behind it.
func TestErasesCut(t *testing.T) {
	all := masks()
	for _, was := range many(t) {
		for i, m := range all {
			b := zeros.Erase(was, m)
			untold(t, b, was)
			untold(t, zeros.Erase(b, all[(i+5)%len(all)]), was)
		}
	}
}

// P15.4: what erases leave of a page whose program was cut, whatever the masks.
func TestErasesBehindProgramsCut(t *testing.T) {
	all := masks()
	for _, was := range pages(t)[10:20] {
		for _, first := range all {
			for i, second := range all {
				b := zeros.Erase(zeros.Program(zeros.Ones(256), was, first), second)
				untold(t, b, was)
				if i%8 == 0 {
					untold(t, zeros.Erase(b, first), was)
				}
			}
		}
	}
}

// P15.4: a program that is cut bit by bit, in any order, is told till the last bit is done; an erase from the first one on.
func TestBitByBit(t *testing.T) {
	x := dice(11)
	for _, was := range many(t)[30:80] {
		b := blank()
		for zeros.Count(b) < zeros.Count(was) {
			k, i := x.below(256), x.below(8)
			for was[k]>>i&1 == 1 || b[k]>>i&1 == 0 {
				if i++; i == 8 {
					k, i = (k+1)%256, 0
				}
			}
			if page.Class(b) == page.Right {
				t.Fatalf("%d is Right, ahead of %d", b, was)
			}
			b[k] -= 1 << i
		}
		untold(t, b, was)
		if !bytes.Equal(b, was) {
			t.Fatalf("%d is not %d", b, was)
		}
	}
}

// P15.4: no page covers another one, however little they differ.
func TestNoPageCoversAnother(t *testing.T) {
	all := many(t)
	for _, h := range []api.Head{head(3, 2, 14, 5, 6, 7, 0), head(1, 0, 1, 0, 0, 0, 3), head(5, 15, 16, 1<<31-1, 1<<31-1, 65535, 228)} {
		for _, x := range others(h) {
			if mayBe(x) {
				all = append(all, put(t, x, texts(x.Len)[0]), put(t, x, texts(x.Len)[1]))
			}
		}
	}
	for i, a := range all {
		for _, b := range all[:i] {
			if !bytes.Equal(a, b) && (zeros.Covers(a, b) || zeros.Covers(b, a)) {
				t.Fatalf("of %d and %d one covers the other one", a, b)
			}
		}
	}
}

// P15.4: pages made out of others by more bits, the count of the bits put right, do not cover them.
func TestMoreBitsAndTheCountPutRight(t *testing.T) {
	x := dice(8)
	for _, was := range many(t) {
		for spread := range 7 {
			b := slices.Clone(was[:252])
			for k, more := range x.bytes(252, spread+1) {
				b[k] |= more
			}
			b = page.Seal(b)
			if bytes.Equal(b, was) {
				continue
			}
			hold(t, b)
			if zeros.Covers(b, was) {
				t.Fatalf("%d covers %d", b, was)
			}
			// All that is 1 in either one: it covers the page that was.
			for k := range b {
				b[k] |= was[k]
			}
			untold(t, b, was)
		}
	}
}

// P15.4: a page opened again is another page: none of the two covers the other one.
func TestReopenedPagesDoNotCover(t *testing.T) {
	for _, was := range pages(t) {
		h, _, _ := page.Get(was)
		for _, open := range []uint64{0, 1, 2, 255, h.Open ^ 1, h.Open | 1<<30, 1<<31 - 1} {
			b, e := page.Reopen(was, open)
			if e != api.OK || !bytes.Equal(b, was) && (zeros.Covers(b, was) || zeros.Covers(was, b)) {
				t.Errorf("Open %d of %v: error %d, %d", open, h, e, b)
			}
		}
	}
}
