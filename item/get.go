package item

import (
	"bytes"
	"unicode/utf8"

	"wagtail/api"
	"wagtail/head"
)

// source is what is left of the bytes that values are read from, and how many more fit.
type source struct {
	left []byte
	fits func(around int) bool
}

// Get reads the value that b begins with, and tells how many bytes it has.
func Get(b []byte) (any, int, api.Errno) {
	s := &source{b, limit(api.MaxDepth, api.MaxItems)}
	v, e := s.value(0)
	if e != api.OK {
		return nil, 0, e
	}
	return v, len(b) - len(s.left), api.OK
}

// Whole reads the value that b is, with nothing behind it.
func Whole(b []byte) (any, api.Errno) {
	v, size, e := Get(b)
	if e != api.OK {
		return nil, e
	}
	if size < len(b) {
		return nil, api.ErrForm
	}
	return v, api.OK
}

// value reads the next value, with all that is in it.
func (s *source) value(around int) (any, api.Errno) {
	if !s.fits(around) {
		return nil, api.ErrBig
	}
	major, n, size, e := head.Get(s.left)
	if e != api.OK {
		return nil, e
	}
	s.left = s.left[size:]
	switch major {
	case head.Uint:
		return n, api.OK
	case head.Nint:
		return api.Minus(n), api.OK
	case head.Bytes:
		b, e := s.take(n)
		return bytes.Clone(b), e
	case head.Text:
		return s.text(n)
	case head.Array:
		return s.list(n, around+1)
	case head.Simple:
		return simple(n)
	}
	return nil, api.ErrType
}

// take takes the next n bytes, as they stand.
func (s *source) take(n uint64) ([]byte, api.Errno) {
	if n > uint64(len(s.left)) {
		return nil, api.ErrShort
	}
	b := s.left[:n]
	s.left = s.left[n:]
	return b, api.OK
}

// text reads a text of n bytes.
func (s *source) text(n uint64) (any, api.Errno) {
	b, e := s.take(n)
	if e != api.OK {
		return nil, e
	}
	if !utf8.Valid(b) {
		return nil, api.ErrForm
	}
	return string(b), api.OK
}

// list reads the n values that a list has: room is made for none of them ahead of its bytes, as n may be any number.
func (s *source) list(n uint64, around int) (any, api.Errno) {
	l := []any{}
	for range n {
		v, e := s.value(around)
		if e != api.OK {
			return nil, e
		}
		l = append(l, v)
	}
	return l, api.OK
}

// simple tells the value of major type 7 that has that argument.
func simple(n uint64) (any, api.Errno) {
	switch n {
	case simpleFalse:
		return false, api.OK
	case simpleTrue:
		return true, api.OK
	case simpleNil:
		return nil, api.OK
	}
	return nil, api.ErrType
}
