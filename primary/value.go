package primary

import (
	"wagtail/api"
	"wagtail/block"
	"wagtail/eid"
	"wagtail/item"
	"wagtail/stamp"
)

// version stands ahead of all.
const version = 7

// Places in a block's list; a fragment's Offset and Total stand behind fields values, ahead of the sum.
const (
	atVersion = iota
	atFlags
	atCrc
	atDest
	atSrc
	atRep
	atStamp
	atLife
	fields
)

// Put lays a block.
func Put(p api.Primary) ([]byte, api.Errno) {
	if e := Check(p); e != api.OK {
		return nil, e
	}
	return block.Seal(values(p), p.Crc)
}

// Get reads a block.
func Get(v any) (api.Primary, api.Errno) {
	l, _ := item.List(v)
	p, ok := unnamed(l)
	if !ok {
		return api.Primary{}, api.ErrType
	}
	if e := name(l, &p.Dest, &p.Src, &p.Rep); e != api.OK {
		return api.Primary{}, e
	}
	// The kind that a sum is of by its length may be another one than the block tells.
	if _, kind, e := block.Open(l); e != api.OK || kind != p.Crc {
		return api.Primary{}, api.ErrSum
	}
	if e := Check(p); e != api.OK {
		return api.Primary{}, e
	}
	return p, api.OK
}

// values tells what stands in the list of a block that may be, without its sum.
func values(p api.Primary) []any {
	l := []any{uint64(version), p.Flags, uint64(p.Crc)}
	for _, name := range []api.Eid{p.Dest, p.Src, p.Rep} {
		// A name that may be has a value.
		v, _ := eid.Value(name)
		l = append(l, v)
	}
	l = append(l, stamp.Value(p.Stamp), p.Life)
	if Fragment(p) {
		l = append(l, p.Offset, p.Total)
	}
	return l
}

// unnamed reads a block's values but for its names, and tells whether there are as many as its flags and kind say, each one of its type. Of names and the sum the type alone is looked at.
func unnamed(l []any) (api.Primary, bool) {
	right := true
	number, list, octets := reader(l, item.Uint, &right), reader(l, item.List, &right), reader(l, item.Bytes, &right)
	p := api.Primary{Flags: number(atFlags), Life: number(atLife)}
	kind, many := number(atCrc), fields
	if Fragment(p) {
		p.Offset, p.Total = number(many), number(many+1)
		many += 2
	}
	if kind != 0 {
		octets(many)
		many++
	}
	for at := atDest; at <= atRep; at++ {
		list(at)
	}
	made, e := stamp.Of(list(atStamp))
	if number(atVersion) != version || kind >= aboveKinds || e != api.OK || len(l) != many {
		return api.Primary{}, false
	}
	p.Crc, p.Stamp = int(kind), made
	return p, right
}

// name reads the names that stand from Dest on, and tells the first error.
func name(l []any, names ...*api.Eid) api.Errno {
	for i, to := range names {
		read, e := eid.Of(l[atDest+i])
		if e != api.OK {
			return e
		}
		*to = read
	}
	return api.OK
}

// reader makes the function that reads the value at a place of a list as one type; right is no more, once there is none of it.
func reader[T any](l []any, as func(v any) (T, bool), right *bool) func(at int) T {
	return func(at int) T {
		v, ok := as(item.At(l, at))
		*right = *right && ok
		return v
	}
}
