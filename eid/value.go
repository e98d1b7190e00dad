package eid

import (
	"wagtail/api"
	"wagtail/item"
)

// Value tells a name's value.
func Value(e api.Eid) (any, api.Errno) {
	switch {
	case !Right(e):
		return nil, api.ErrArg
	case e == None():
		return []any{uint64(dtn), uint64(0)}, api.OK
	case e.Scheme == dtn:
		return []any{uint64(dtn), e.Name}, api.OK
	}
	return []any{uint64(ipn), []any{e.Node, e.Service}}, api.OK
}

// Of reads a name's value.
func Of(v any) (api.Eid, api.Errno) {
	read := pair(v)
	scheme, _ := item.Uint(read(0))
	switch scheme {
	case dtn:
		return ofDtn(read(1))
	case ipn:
		return ofIpn(read(1))
	}
	return api.Eid{}, api.ErrType
}

// ofDtn reads what stands behind scheme 1.
func ofDtn(v any) (api.Eid, api.Errno) {
	n, isNumber := item.Uint(v)
	name, isText := item.Text(v)
	switch {
	case isNumber && n == 0:
		return None(), api.OK
	// An empty text is no other way of telling nobody's name: each name has one value alone.
	case isText && proper(name):
		return called(name), api.OK
	case isNumber || isText:
		return api.Eid{}, api.ErrForm
	}
	return api.Eid{}, api.ErrType
}

// ofIpn reads what stands behind scheme 2.
func ofIpn(v any) (api.Eid, api.Errno) {
	read := pair(v)
	node, ok := item.Uint(read(0))
	service, okToo := item.Uint(read(1))
	if !ok || !okToo {
		return api.Eid{}, api.ErrType
	}
	return numbered(node, service), api.OK
}

// pair makes the function that tells what stands at a place of a list of two values; of what is no such list, nil.
func pair(v any) func(at int) any {
	l, _ := item.List(v)
	return func(at int) any {
		if len(l) != 2 {
			return nil
		}
		return l[at]
	}
}
