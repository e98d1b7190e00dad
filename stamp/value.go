package stamp

import (
	"wagtail/api"
	"wagtail/item"
)

// Value tells a stamp's value.
func Value(s api.Stamp) any {
	return []any{s.Time, s.Seq}
}

// Of reads a stamp's value.
func Of(v any) (api.Stamp, api.Errno) {
	read := numbers(v)
	time, ok := read(0)
	seq, okToo := read(1)
	if !ok || !okToo {
		return api.Stamp{}, api.ErrType
	}
	return api.Stamp{Time: time, Seq: seq}, api.OK
}

// numbers makes the function that tells the number at a place of a list of two values, and whether there is one; of what is no such list there is none.
func numbers(v any) func(at int) (uint64, bool) {
	l, _ := item.List(v)
	return func(at int) (uint64, bool) {
		if len(l) != 2 {
			return 0, false
		}
		return item.Uint(l[at])
	}
}
