package be_test

import (
	"bytes"
	"math"
	"testing"

	"wagtail/api"
	"wagtail/be"
)

// stands tells what is wrong with how a reader stands.
func stands(t *testing.T, what string, r *be.Reader, left int, end api.Errno) {
	t.Helper()
	if r.Left() != left || r.End() != end {
		t.Errorf("%s: left %d, end %d, not %d and %d", what, r.Left(), r.End(), left, end)
	}
}

// isShort tells what is wrong with a reader that ought to be short: all is 0 and nothing from then on.
func isShort(t *testing.T, what string, r *be.Reader) {
	t.Helper()
	for range 2 {
		stands(t, what, r, 0, api.ErrShort)
		for _, n := range []int{0, 1, 2, 8, -1, 9, math.MaxInt, math.MinInt} {
			if v, b := r.N(n), r.B(n); v != 0 || len(b) != 0 {
				t.Errorf("%s: still read: %d, %v", what, v, b)
			}
		}
	}
}

// P1.2: numbers and bytes are read one behind the other, and nothing is left.
func TestReaderReadsAll(t *testing.T) {
	r := be.Over([]byte{7, 1, 2, 10, 20, 30, 1, 2, 3, 4, 5, 6, 7, 8})
	stands(t, "at first", r, 14, api.ErrForm)
	if n := r.N(1); n != 7 {
		t.Error(n)
	}
	stands(t, "behind a byte", r, 13, api.ErrForm)
	if n := r.N(2); n != 258 {
		t.Error(n)
	}
	if b := r.B(3); !bytes.Equal(b, []byte{10, 20, 30}) {
		t.Error(b)
	}
	stands(t, "behind bytes", r, 8, api.ErrForm)
	if n := r.N(8); n != long {
		t.Error(n)
	}
	stands(t, "at the end", r, 0, api.OK)
	stands(t, "asked again", r, 0, api.OK)
}

// P1.2: each width from 1 to 8 is read as Get reads it.
func TestReaderReadsEachWidth(t *testing.T) {
	for _, n := range samples() {
		for w := 1; w <= 8; w++ {
			b := be.Put(nil, w, n)
			r := be.Over(b)
			if got, want := r.N(w), be.Get(b, 0, w); got != want {
				t.Errorf("width %d: %#x, not %#x", w, got, want)
			}
			stands(t, "behind the number", r, 0, api.OK)
		}
	}
}

// P1.2: a reader of nothing is at its end, and reads no bytes without being short.
func TestReaderOfNothing(t *testing.T) {
	for _, b := range [][]byte{nil, {}} {
		r := be.Over(b)
		if r == nil {
			t.Fatal("no reader")
		}
		stands(t, "of nothing", r, 0, api.OK)
		if len(r.B(0)) != 0 {
			t.Error("there are bytes")
		}
		stands(t, "behind no bytes", r, 0, api.OK)
		if r.N(1) != 0 {
			t.Error("there is a number")
		}
		isShort(t, "of nothing", r)
	}
}

// P1.2: a reader with fewer bytes than asked is short from then on, whatever it had left.
func TestReaderIsShort(t *testing.T) {
	for w := 1; w <= 8; w++ {
		r := be.Over(bytes.Repeat([]byte{255}, w-1))
		if n := r.N(w); n != 0 {
			t.Errorf("width %d of %d bytes: %d", w, w-1, n)
		}
		isShort(t, "a number", r)
	}
	for _, n := range []int{4, 5, 1000, math.MaxInt} {
		r := be.Over([]byte{1, 2, 3})
		if b := r.B(n); len(b) != 0 {
			t.Errorf("%d of 3 bytes: %v", n, b)
		}
		isShort(t, "bytes", r)
	}
	r := be.Over([]byte{1, 2, 3})
	r.N(2)
	if r.N(2) != 0 {
		t.Error("there is a number")
	}
	isShort(t, "behind a number", r)
}

// P1.2: widths that are not from 1 to 8, and numbers of bytes below 0, make a reader short.
func TestReaderOfOddWidths(t *testing.T) {
	many := bytes.Repeat([]byte{255}, 20)
	for _, w := range []int{0, -1, 9, 10, 16, math.MaxInt, math.MinInt, math.MinInt32} {
		r := be.Over(many)
		if n := r.N(w); n != 0 {
			t.Errorf("width %d: %d", w, n)
		}
		isShort(t, "an odd width", r)
	}
	for _, n := range []int{-1, -20, math.MinInt, math.MinInt32} {
		r := be.Over(many)
		if b := r.B(n); len(b) != 0 {
			t.Errorf("%d bytes: %v", n, b)
		}
		isShort(t, "below 0", r)
	}
	r := be.Over(nil)
	r.N(0)
	isShort(t, "an odd width of nothing", r)
}

// P1.2: just as many bytes as are left may be read, and none at any time.
func TestReaderOfAllThatIsLeft(t *testing.T) {
	r := be.Over([]byte{1, 2, 3, 4, 5, 6, 7, 8, 9, 10})
	if len(r.B(0)) != 0 {
		t.Error("there are bytes")
	}
	stands(t, "behind no bytes", r, 10, api.ErrForm)
	if b := r.B(10); !bytes.Equal(b, []byte{1, 2, 3, 4, 5, 6, 7, 8, 9, 10}) {
		t.Error(b)
	}
	stands(t, "behind all", r, 0, api.OK)
	r.B(0)
	stands(t, "behind none of none", r, 0, api.OK)
	r.B(1)
	isShort(t, "behind the end", r)
}

// P1.2: Over keeps a copy, in which neither what is handed in nor its spare room is seen.
func TestOverKeepsCopy(t *testing.T) {
	room := []byte{1, 2, 3, 4}
	r := be.Over(room[:3])
	copy(room, []byte{9, 9, 9, 9})
	stands(t, "of a piece", r, 3, api.ErrForm)
	if n := r.N(2); n != 258 {
		t.Error(n)
	}
	clear(room)
	if b := r.B(1); !bytes.Equal(b, []byte{3}) {
		t.Error(b)
	}
	r.B(1)
	isShort(t, "at the piece's end", r)
}

// P1.2: the bytes of B are new: nobody who writes in them, or behind them, is seen elsewhere.
func TestReaderAnswersNewMemory(t *testing.T) {
	b := []byte{1, 2, 3, 4, 5, 6}
	r := be.Over(b)
	x := r.B(2)
	clear(x)
	_ = append(x, 77, 77, 77, 77)
	y := r.B(2)
	if !bytes.Equal(y, []byte{3, 4}) {
		t.Error(y)
	}
	_ = append(r.B(0), 77, 77)
	_ = append(x[:0], 88, 88)
	if !bytes.Equal(y, []byte{3, 4}) || r.N(2) != 0x0506 {
		t.Error("two answers share")
	}
	if !bytes.Equal(b, []byte{1, 2, 3, 4, 5, 6}) {
		t.Error(b)
	}
}

// P1.2: two readers of the same bytes go on each by itself.
func TestReadersAreTheirOwn(t *testing.T) {
	b := []byte{1, 2, 3}
	x, y := be.Over(b), be.Over(b)
	x.N(9)
	isShort(t, "the first", x)
	stands(t, "the second", y, 3, api.ErrForm)
	if n := y.N(3); n != 0x010203 {
		t.Error(n)
	}
	stands(t, "the second", y, 0, api.OK)
}

// P1.2: of a reader that is nil: 0, nothing, ErrNil.
func TestReaderIsNil(t *testing.T) {
	var r *be.Reader
	for _, n := range []int{0, 1, 8, 9, -1, math.MaxInt, math.MinInt} {
		if r.N(n) != 0 || len(r.B(n)) != 0 {
			t.Error("there is something, of", n)
		}
		stands(t, "nil", r, 0, api.ErrNil)
	}
}
