package bundle

import (
	"bytes"
	"slices"

	"wagtail/api"
	"wagtail/block"
	"wagtail/head"
	"wagtail/item"
	"wagtail/primary"
)

// Put lays a bundle.
func Put(b api.Bundle) ([]byte, api.Errno) {
	if e := Check(b); e != api.OK {
		return nil, e
	}
	// Blocks that may be have bytes.
	front, _ := primary.Put(b.P)
	row := append(head.Open(), front...)
	for _, x := range append(slices.Clone(b.Blocks), b.Payload) {
		laid, _ := block.Put(x)
		row = append(row, laid...)
	}
	return append(row, head.Break()...), api.OK
}

// Get reads a bundle.
func Get(s []byte) (api.Bundle, api.Errno) {
	switch {
	case len(s) > api.MaxText:
		return api.Bundle{}, api.ErrBig
	case !head.Is(s, head.Open()):
		return api.Bundle{}, api.ErrForm
	}
	left := s[len(head.Open()):]
	b, e := blocks(source(&left))
	if e != api.OK {
		return api.Bundle{}, e
	}
	if !bytes.Equal(left, head.Break()) {
		return api.Bundle{}, api.ErrForm
	}
	// Each block may be, but perhaps not all of them together.
	if e := Check(b); e != api.OK {
		return api.Bundle{}, e
	}
	return b, api.OK
}

// blocks reads the first block, and the others, up to the Payload.
func blocks(next func() (any, api.Errno)) (api.Bundle, api.Errno) {
	p, e := read(next, primary.Get)
	if e != api.OK {
		return api.Bundle{}, e
	}
	b := api.Bundle{P: p}
	for {
		x, e := read(next, block.Get)
		switch {
		case e != api.OK:
			return api.Bundle{}, e
		case x.Type == ofPayload:
			b.Payload = x
			return b, api.OK
		case len(b.Blocks) == most:
			return api.Bundle{}, api.ErrBig
		}
		b.Blocks = append(b.Blocks, x)
	}
}

// read reads the next value as one kind of block.
func read[T any](next func() (any, api.Errno), as func(v any) (T, api.Errno)) (T, api.Errno) {
	v, e := next()
	if e != api.OK {
		var none T
		return none, e
	}
	return as(v)
}

// source makes the function that reads the next value of what is left of bytes.
func source(left *[]byte) func() (any, api.Errno) {
	return func() (any, api.Errno) {
		v, size, e := item.Get(*left)
		*left = (*left)[size:]
		return v, e
	}
}
