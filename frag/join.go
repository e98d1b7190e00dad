package frag

import (
	"cmp"
	"slices"

	"wagtail/api"
	"wagtail/bundle"
	"wagtail/primary"
)

// Holes tells which bytes are in no fragment.
func Holes(total uint64, l ...api.Bundle) [][2]uint64 {
	var holes [][2]uint64
	told := uint64(0)
	for _, at := range rising(l) {
		from, end := span(l[at], total)
		if from == end { // it has nothing, and parts no hole
			continue
		}
		if from > told {
			holes = append(holes, [2]uint64{told, from})
		}
		told = max(told, end)
	}
	if told < total {
		holes = append(holes, [2]uint64{told, total})
	}
	return holes
}

// Join puts fragments together.
func Join(l ...api.Bundle) (api.Bundle, api.Errno) {
	if len(l) == 0 {
		return api.Bundle{}, api.ErrNone
	}
	for _, b := range l {
		if e := bundle.Check(b); e != api.OK {
			return api.Bundle{}, e
		}
	}
	if len(l) == 1 && !primary.Fragment(l[0].P) {
		return clone(l[0]), api.OK
	}
	if slices.ContainsFunc(l, strange(l[0])) {
		return api.Bundle{}, api.ErrForm
	}
	data, ok := together(l)
	switch {
	case !ok:
		return api.Bundle{}, api.ErrForm
	case len(Holes(l[0].P.Total, l...)) > 0:
		return api.Bundle{}, api.ErrNone
	}
	return whole(l, data), api.OK
}

// rising tells at which places of a list fragments stand, those that begin first ahead.
func rising(l []api.Bundle) []int {
	places := make([]int, len(l))
	for at := range places {
		places[at] = at
	}
	slices.SortFunc(places, earlier(l))
	return places
}

// earlier makes the function that tells which of the fragments at two places of a list begins first.
func earlier(l []api.Bundle) func(a, b int) int {
	return func(a, b int) int {
		return cmp.Compare(l[a].P.Offset, l[b].P.Offset)
	}
}

// span tells where a fragment's data begin, and where they end, as far as total.
func span(b api.Bundle, total uint64) (from, end uint64) {
	from = min(b.P.Offset, total)
	return from, from + min(uint64(len(b.Payload.Data)), total-from)
}

// strange makes the function that tells whether a bundle that may be can't be a fragment of the first one's bundle.
func strange(first api.Bundle) func(b api.Bundle) bool {
	return func(b api.Bundle) bool {
		return !primary.Fragment(b.P) || !primary.Same(b.P, first.P) || beyond(b) || b.P.Total > api.MaxText
	}
}

// together tells the data of all fragments, which reach not beyond their Total, with 0 in holes, and whether no two have unlike bytes at one place.
func together(l []api.Bundle) ([]byte, bool) {
	data := make([]byte, l[0].P.Total)
	end := 0 // from where the next fragment begins up to here all is laid
	for _, at := range rising(l) {
		from, more := int(l[at].P.Offset), l[at].Payload.Data
		again := min(max(end-from, 0), len(more))
		if string(data[from:from+again]) != more[:again] {
			return nil, false
		}
		copy(data[from+again:], more[again:])
		end = max(end, from+len(more))
	}
	return data, true
}

// whole tells the whole bundle of fragments that have all its data.
func whole(l []api.Bundle, data []byte) api.Bundle {
	at := slices.IndexFunc(l, func(b api.Bundle) bool { return b.P.Offset == 0 })
	b := clone(l[at])
	b.P = primary.Whole(b.P)
	b.Payload.Data = string(data)
	return b
}
