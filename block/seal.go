package block

import (
	"bytes"
	"slices"

	"wagtail/api"
	"wagtail/be"
	"wagtail/crc"
	"wagtail/item"
)

// kinds is how many kinds of sums there are: 0, which is none at all, 1 and 2.
const kinds = 3

// Seal lays a list, and its sum.
func Seal(l []any, kind int) ([]byte, api.Errno) {
	switch {
	case !known(kind):
		return nil, api.ErrArg
	case kind == 0:
		return item.Put(l)
	}
	width := crc.Width(kind)
	row, e := item.Put(append(slices.Clone(l), make([]byte, width)))
	if e != api.OK {
		return nil, e
	}
	return be.Put(row[:len(row)-width], width, crc.Of(kind, row)), api.OK
}

// Open reads a list that has a sum behind it, if it has one.
func Open(v any) ([]any, int, api.Errno) {
	l, ok := item.List(v)
	if !ok {
		return nil, 0, api.ErrType
	}
	kind := ending(l)
	if kind == 0 {
		return l, 0, api.OK
	}
	if !sealed(l, kind) {
		return nil, 0, api.ErrSum
	}
	return l[:len(l)-1], kind, api.OK
}

// known tells whether there are sums of that kind, or none are asked for.
func known(kind int) bool {
	return kind >= 0 && kind < kinds
}

// ending tells the kind of the sum that a list ends with, by how many bytes that has; 0, if there is none.
func ending(l []any) int {
	last, _ := item.Bytes(item.At(l, len(l)-1))
	for kind := range kinds {
		if len(last) == crc.Width(kind) {
			return kind
		}
	}
	return 0
}

// sealed tells whether a list, which is not empty, is what Seal makes of all but its last value. What has no bytes has no sum, either.
func sealed(l []any, kind int) bool {
	want, e := Seal(l[:len(l)-1], kind)
	row, f := item.Put(l)
	return e == api.OK && f == api.OK && bytes.Equal(row, want)
}
