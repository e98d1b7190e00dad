package stamp_test

import (
	"encoding/hex"
	"fmt"
	"reflect"
	"slices"
	"testing"

	"wagtail/api"
	"wagtail/item"
	"wagtail/stamp"
)

// Types that look like a value's, and are none.
type (
	number uint64
	list   []any
	pair   [2]any
)

// parts are values of each type that is no uint64, and some of no type.
func parts() []any {
	n := uint64(5)
	l := []any{nil, true, false, []byte{}, []byte{5, 1}, []byte(nil), "", "5", "0", "5 1", []any{}, []any(nil), []any{n}, []any{n, n}, []any{n, n, n}, []any{[]any{n, n}}, []any{nil}, []any{nil, nil}, []any{api.Minus(5), n},
		0, 5, int64(5), int32(5), int8(5), uint(5), uint32(5), uint16(5), uint8(5), uintptr(5), 5.0, float32(5), 5i, 'a', number(5), list{n, n}, list{}, pair{n, n}, [2]uint64{5, 1}, []uint64{5, 1}, []int{5, 1}, []string{"5", "1"}, [][]any{{n, n}}, map[any]any{n: n}, api.Stamp{}, api.Stamp{Time: 5, Seq: 1}, &api.Stamp{Time: 5, Seq: 1}, []api.Stamp{{Time: 5}}, api.Eid{Scheme: 2, Node: 5}, api.ErrType, &n, (*uint64)(nil), &[]any{n, n}, (*[]any)(nil), struct{}{}, func() {}, make(chan uint64)}
	for _, m := range numbers() {
		l = append(l, api.Minus(m))
	}
	return l
}

// isStamp looks at what is read of a value that is that stamp's.
func isStamp(t *testing.T, v any, s api.Stamp) {
	t.Helper()
	if got, e := stamp.Of(v); got != s || e != api.OK {
		t.Errorf("Of(%s) = %v, %d, not %v", brief(v), got, e, s)
	}
}

// isNone looks at what is read of a value that is no stamp's.
func isNone(t *testing.T, v any) {
	t.Helper()
	if got, e := stamp.Of(v); got != (api.Stamp{}) || e != api.ErrType {
		t.Errorf("Of(%s) = %v, %d, not %d alone", brief(v), got, e, api.ErrType)
	}
}

// brief tells a value, and of what is long how it begins.
func brief(v any) string {
	return fmt.Sprintf("%.100s", fmt.Sprintf("%#v", v))
}

// P8.1: a stamp's value is a list of Time and Seq, and it is read again, by way of bytes, too; no two stamps have one value.
func TestOfOfValue(t *testing.T) {
	values := map[string]api.Stamp{}
	for _, s := range stamps() {
		v := stamp.Value(s)
		if !reflect.DeepEqual(v, any([]any{s.Time, s.Seq})) {
			t.Errorf("Value(%v) = %#v", s, v)
		}
		isStamp(t, v, s)
		isStamp(t, []any{s.Time, s.Seq}, s)
		if s.Time != s.Seq {
			isStamp(t, []any{s.Seq, s.Time}, api.Stamp{Time: s.Seq, Seq: s.Time})
		}
		row, e := item.Put(v)
		if other, ok := values[string(row)]; ok || e != api.OK {
			t.Errorf("%v: %v, %d, as of %v", s, row, e, other)
		}
		values[string(row)] = s
		w, e := item.Whole(row)
		if e != api.OK || !item.Same(v, w) || !item.Same(v, stamp.Value(s)) {
			t.Errorf("%v: %v becomes %v, %d", s, v, w, e)
		}
		isStamp(t, w, s)
	}
}

// P8.1: values whose bytes are known from elsewhere (a stamp of RFC 9173, 0 and 40, and numbers of RFC 8949), and the stamps.
func TestKnownValues(t *testing.T) {
	for digits, s := range map[string]api.Stamp{
		"820000": {}, "820001": {Seq: 1}, "820100": {Time: 1}, "82171818": {Time: 23, Seq: 24}, "8218ff190100": {Time: 255, Seq: 256}, "8219ffff1a00010000": {Time: 65535, Seq: 65536}, "821affffffff1b0000000100000000": {Time: 1<<32 - 1, Seq: 1 << 32}, "82001828": {Seq: 40}, "8218641903e8": {Time: 100, Seq: 1000}, "821b000000e8d4a510001a000f4240": {Time: 1000000000000, Seq: 1000000}, "821bffffffffffffffff1bffffffffffffffff": {Time: greatest, Seq: greatest},
	} {
		b, f := hex.DecodeString(digits)
		v, e := item.Whole(b)
		if f != nil || e != api.OK {
			t.Fatalf("%s: %v, %d", digits, f, e)
		}
		isStamp(t, v, s)
		if row, e := item.Put(stamp.Value(s)); e != api.OK || !slices.Equal(row, b) {
			t.Errorf("Value(%v): %x, %d, not %s", s, row, e, digits)
		}
	}
}

// P8.1: values that are no list of two numbers: no list, and lists of none, one, three and more.
func TestValuesOfNoStamp(t *testing.T) {
	var none []any
	isNone(t, none)
	isNone(t, []any{})
	isNone(t, []any{none, none})
	for _, n := range numbers() {
		isNone(t, n)
		isNone(t, []any{n})
		for _, m := range numbers() {
			isNone(t, []any{n, m, n})
			isNone(t, []any{n, m, nil})
			isNone(t, []any{n, m, []any{}})
			isNone(t, []any{nil, n, m})
			isNone(t, []any{n, m, n, m})
			isNone(t, []any{[]any{n, m}})
			isNone(t, []any{n, []any{m}})
			isNone(t, []any{[]any{n}, m})
			isNone(t, []any{[]any{n}, []any{m}})
			isNone(t, []any{[]any{n, m}, []any{n, m}})
		}
	}
	isNone(t, slices.Repeat([]any{uint64(5)}, 5000))
}

// P8.1: each other type alone, and at each place of a list of one, two and three.
func TestValuesOfParts(t *testing.T) {
	for _, a := range parts() {
		if !reflect.DeepEqual(a, []any{uint64(5), uint64(5)}) {
			isNone(t, a)
		}
		isNone(t, []any{a})
		for _, n := range numbers() {
			isNone(t, []any{a, n})
			isNone(t, []any{n, a})
			isNone(t, []any{a, n, n})
			isNone(t, []any{n, a, n})
			isNone(t, []any{n, n, a})
		}
		for _, b := range parts() {
			isNone(t, []any{a, b})
			isNone(t, []any{uint64(5), uint64(1), a, b})
		}
	}
}

// R1: lists within lists, however deep, end, and are no stamp's.
func TestDeepValues(t *testing.T) {
	deep := any([]any{uint64(5), uint64(1)})
	for range 1000 {
		deep = []any{uint64(5), deep}
		isNone(t, deep)
		isNone(t, []any{deep, uint64(5)})
		isNone(t, []any{deep})
	}
	for range 1 << 15 {
		deep = []any{deep}
	}
	isNone(t, deep)
	isNone(t, []any{uint64(5), uint64(1), deep})
}

// R3: what is handed in is not changed, its spare room neither, and that room counts for nothing; and it is not kept.
func TestValuesHandedInAreNotChanged(t *testing.T) {
	for _, s := range stamps() {
		roomy := []any{s.Time, s.Seq, uint64(7), "more"}
		was := slices.Clone(roomy)
		isStamp(t, roomy[:2], s)
		isNone(t, roomy[:1])
		isNone(t, roomy[:0])
		isNone(t, roomy[:3])
		isNone(t, roomy)
		if !slices.Equal(roomy, was) {
			t.Errorf("%v became %v", was, roomy)
		}
		v := roomy[:2]
		got, _ := stamp.Of(v)
		v[0], v[1] = s.Seq, "spoilt"
		if got != s {
			t.Errorf("%v became %v", s, got)
		}
		isNone(t, v)
		v[1] = s.Time
		isStamp(t, v, api.Stamp{Time: s.Seq, Seq: s.Time})
	}
}

// R3: what is answered is new memory: neither another answer nor what is read of it hangs on what becomes of it.
func TestValuesAreNewMemory(t *testing.T) {
	for _, s := range stamps() {
		first, second := stamp.Value(s), stamp.Value(s)
		l := first.([]any)
		_ = append(l, "more", "more")
		clear(l[:cap(l)])
		isNone(t, first)
		isStamp(t, second, s)
		isStamp(t, stamp.Value(s), s)
	}
}
