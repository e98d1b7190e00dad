package item

import (
	"unicode/utf8"

	"wagtail/api"
	"wagtail/head"
)

// Arguments of major type 7 that are values.
const (
	simpleFalse = 20
	simpleTrue  = 21
	simpleNil   = 22
)

// Put lays a value, with all that is in it.
func Put(v any) ([]byte, api.Errno) {
	var row []byte
	if e := walk(v, 0, limit(api.MaxDepth, api.MaxItems), onto(&row)); e != api.OK {
		return nil, e
	}
	return row, api.OK
}

// onto makes the function that lays a value behind those that the row has.
func onto(row *[]byte) func(v any) api.Errno {
	return func(v any) api.Errno {
		b, e := alone(v)
		*row = append(*row, b...)
		return e
	}
}

// alone lays a value; of a list the head only, as what is in it comes behind it value by value.
func alone(v any) ([]byte, api.Errno) {
	switch w := v.(type) {
	case uint64:
		return head.Put(head.Uint, w)
	case api.Minus:
		return head.Put(head.Nint, uint64(w))
	case []byte:
		return filled(head.Bytes, w)
	case string:
		if !utf8.ValidString(w) {
			return nil, api.ErrType
		}
		return filled(head.Text, w)
	case []any:
		return head.Put(head.Array, uint64(len(w)))
	case bool:
		if w {
			return head.Put(head.Simple, simpleTrue)
		}
		return head.Put(head.Simple, simpleFalse)
	case nil:
		return head.Put(head.Simple, simpleNil)
	}
	return nil, api.ErrType
}

// filled lays a head that tells a length, and what has it.
func filled[B []byte | string](major int, what B) ([]byte, api.Errno) {
	b, e := head.Put(major, uint64(len(what)))
	return append(b, what...), e
}
