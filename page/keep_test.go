package page_test

import (
	"bytes"
	"math"
	"reflect"
	"slices"
	"strings"
	"testing"

	"wagtail/api"
	"wagtail/page"
)

// roomy are bytes within others, and all of them.
func roomy(b []byte) (in, room []byte) {
	room = slices.Concat([]byte{170, 85}, b, bytes.Repeat([]byte{170}, 300))
	return room[2 : 2+len(b)], room
}

// handed are bytes that may be handed in: pages, blank and torn ones, and those of other lengths.
func handed(t *testing.T) [][]byte {
	t.Helper()
	right := pages(t)
	torn := slices.Clone(right[5])
	torn[3] = 1
	return append(right[:14], blank(), torn, nil, []byte{}, right[7][:251], right[7][:252], right[7][:253], blank()[:252], append(blank(), 255), make([]byte, 252), make([]byte, 600))
}

// R3: bytes that are handed in are not changed, nor what is ahead of them, nor their spare room.
func TestBytesHandedInAreNotChanged(t *testing.T) {
	for _, was := range handed(t) {
		b, room := roomy(was)
		all := slices.Clone(room)
		for name, call := range map[string]func(){
			"Seal":    func() { page.Seal(b) },
			"Class":   func() { page.Class(b) },
			"Classes": func() { page.Classes(b, blank(), b) },
			"Get":     func() { page.Get(b) },
			"Reopen":  func() { page.Reopen(b, 7) },
			"again":   func() { page.Reopen(b, 1<<31) },
		} {
			if call(); !bytes.Equal(room, all) {
				t.Errorf("%s of %d bytes: became %d", name, len(was), room)
			}
		}
	}
}

// R3: a list of pages that is handed in is not changed, its order and spare room neither, and not kept.
func TestListsHandedInAreNotChanged(t *testing.T) {
	right := pages(t)[3]
	room := [][]byte{nil, right, blank(), {1}, blank(), right, {2}, nil}
	was := slices.Clone(room)
	l := room[1:5]
	for range 3 {
		if n := page.Classes(l...); n != [3]int{2, 1, 1} {
			t.Error(n)
		}
		if !reflect.DeepEqual(room, was) {
			t.Errorf("became %d", room)
		}
	}
	l[0], l[3] = blank(), blank()
	if n := page.Classes(l...); n != [3]int{3, 0, 1} {
		t.Error(n)
	}
}

// R3: what is answered shares nothing with what was handed in, nor is that kept.
func TestAnswersShareNothingWithArguments(t *testing.T) {
	for _, was := range pages(t) {
		b, room := roomy(was)
		h, data, _ := page.Get(b)
		kept := strings.Clone(data)
		same, _ := page.Reopen(b, h.Open)
		other, _ := page.Reopen(b, h.Open^1)
		long := page.Seal(b[:252])
		copies := [][]byte{slices.Clone(same), slices.Clone(other), slices.Clone(long)}
		clear(room)
		if data != kept || !bytes.Equal(same, copies[0]) || !bytes.Equal(other, copies[1]) || !bytes.Equal(long, copies[2]) {
			t.Fatalf("what was answered of %d became %q, %d, %d, %d", was, data, same, other, long)
		}
		for _, x := range [][]byte{same, other, long} {
			for i := range x[:cap(x)] {
				x[:cap(x)][i] = 99
			}
		}
		if !bytes.Equal(room, make([]byte, len(room))) {
			t.Fatalf("what was handed in became %d", room)
		}
	}
}

// R3: what is answered is new memory each time, its spare room too.
func TestAnswersAreNewMemory(t *testing.T) {
	for _, h := range few() {
		for _, data := range texts(h.Len) {
			want := laid(h, data)
			for name, call := range map[string]func() []byte{
				"Put":    func() []byte { b, _ := page.Put(h, data); return b },
				"Seal":   func() []byte { return page.Seal(want[:252]) },
				"Reopen": func() []byte { b, _ := page.Reopen(want, h.Open); return b },
			} {
				a, b := call(), call()
				clear(a[:cap(a)])
				if c := call(); !bytes.Equal(b, want) || !bytes.Equal(c, want) {
					t.Fatalf("%s of %v: %d, then %d", name, h, b, c)
				}
			}
		}
	}
}

// R3: lists without an element, nil or empty, are alike.
func TestNilAndEmpty(t *testing.T) {
	room := blank()
	for _, b := range [][]byte{nil, {}, room[:0], room[256:]} {
		if page.Class(b) != page.Torn || len(page.Seal(b)) != 0 || page.Classes(b) != [3]int{0, 0, 1} {
			t.Errorf("class %d", page.Class(b))
		}
		if _, _, e := page.Get(b); e != api.ErrForm {
			t.Errorf("Get: error %d", e)
		}
		if _, e := page.Reopen(b, 0); e != api.ErrForm {
			t.Errorf("Reopen: error %d", e)
		}
	}
	if page.Classes() != page.Classes([][]byte{}...) || page.Classes([][]byte(nil)...) != [3]int{} {
		t.Error("no pages")
	}
	if b, e := page.Put(head(2, 0, 1, 0, 0, 0, 0), ""); e != api.OK || !bytes.Equal(b, laid(head(2, 0, 1, 0, 0, 0, 0), "")) {
		t.Errorf("no data: error %d, %d", e, b)
	}
}

// answer is what all calls tell of some arguments.
type answer struct {
	check, put, get, reopen api.Errno
	laid, sealed, opened    string
	class                   int
	classes                 [3]int
	h                       api.Head
	data                    string
}

// question is what all calls are asked.
type question struct {
	h    api.Head
	data string
	b    []byte
	open uint64
}

// ask makes all calls.
func (q question) ask() answer {
	a := answer{check: page.Check(q.h), class: page.Class(q.b), classes: page.Classes(q.b, blank(), q.b)}
	b, e := page.Put(q.h, q.data)
	a.laid, a.put = string(b), e
	a.h, a.data, a.get = page.Get(q.b)
	b, e = page.Reopen(q.b, q.open)
	a.opened, a.reopen = string(b), e
	a.sealed = string(page.Seal(q.b[:min(len(q.b), 252)]))
	return a
}

// questions are many, right and wrong ones.
func questions(t *testing.T) []question {
	t.Helper()
	var l []question
	for _, b := range handed(t) {
		for i, h := range append(few(), api.Head{}, head(6, 0, 1, 0, 0, 0, 3), head(3, 1, 1, 1<<31, 0, -1, 3)) {
			data := texts(h.Len)
			l = append(l, question{h, data[i%len(data)], b, uint64(i)}, question{h, "abc", b, math.MaxUint64}, question{h, "", b, 1 << 30})
		}
	}
	return l
}

// R4: what is answered hangs on the arguments, not on what was asked before.
func TestAnswersHangOnArgumentsAlone(t *testing.T) {
	all := questions(t)
	var first []answer
	for _, q := range all {
		first = append(first, q.ask())
	}
	for i, q := range slices.Backward(all) {
		if got := q.ask(); got != first[i] {
			t.Fatalf("of %v, %q, %d, Open %d: class %d, then %d", q.h, q.data, q.b, q.open, first[i].class, got.class)
		}
	}
	for i, q := range all {
		all[(i*7+3)%len(all)].ask()
		if got := q.ask(); got != first[i] {
			t.Fatalf("of %v, %q, %d, Open %d: class %d, then %d", q.h, q.data, q.b, q.open, first[i].class, got.class)
		}
	}
}

// R1: whatever is handed in, every call answers.
func TestNothingPanics(t *testing.T) {
	x := dice(77)
	for i := range 3000 {
		b := x.bytes(x.below(300), 1+i%4)
		if i%3 == 0 {
			b = x.bytes(256, 1+i%4)
			copy(b, []byte{3, 0, 1, 0, 0, 0, 0, 0})
			b = sealed(b)
		}
		h := head(ints()[x.below(len(ints()))], ints()[x.below(len(ints()))], ints()[x.below(len(ints()))], longs()[x.below(len(longs()))], longs()[x.below(len(longs()))], ints()[x.below(len(ints()))], ints()[x.below(len(ints()))])
		a := question{h, string(b), b, longs()[x.below(len(longs()))]}.ask()
		if a.class != meant(b).class || (a.check == api.OK) != mayBe(h) {
			t.Fatalf("of %v, %d: class %d, errors %d, %d", h, b, a.class, a.check, a.get)
		}
	}
}
