package be

import (
	"bytes"

	"wagtail/api"
)

// Reader is bytes that are left, and whether they were too few.
type Reader struct {
	rest  []byte
	short bool
}

// Over makes a reader of a copy of b.
func Over(b []byte) *Reader {
	return &Reader{rest: bytes.Clone(b)}
}

// N reads the next number of width w; it is 0, and the reader short, if there is none.
func (r *Reader) N(w int) uint64 {
	if w < 1 || w > widest {
		r.stop()
		return 0
	}
	return Get(r.take(w), 0, w)
}

// B reads the next n bytes; they are nothing, and the reader short, if there are not as many.
func (r *Reader) B(n int) []byte {
	return bytes.Clone(r.take(n))
}

// Left tells how many bytes are left.
func (r *Reader) Left() int {
	if r == nil {
		return 0
	}
	return len(r.rest)
}

// End tells whether all was read.
func (r *Reader) End() api.Errno {
	switch {
	case r == nil:
		return api.ErrNil
	case r.short:
		return api.ErrShort
	case len(r.rest) > 0:
		return api.ErrForm
	}
	return api.OK
}

// take takes the next n bytes out, as they are; nothing, and the reader is short, if there are not as many.
func (r *Reader) take(n int) []byte {
	if r == nil {
		return nil
	}
	if n < 0 || n > len(r.rest) {
		r.stop()
		return nil
	}
	got := r.rest[:n]
	r.rest = r.rest[n:]
	return got
}

// stop makes a reader short: what was left counts no more, so that nothing is read from then on.
func (r *Reader) stop() {
	if r != nil {
		r.rest, r.short = nil, true
	}
}
