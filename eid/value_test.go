package eid_test

import (
	"encoding/hex"
	"reflect"
	"slices"
	"strings"
	"testing"

	"wagtail/api"
	"wagtail/eid"
	"wagtail/item"
)

// Types that look like a value's, and are none.
type (
	number uint64
	text   string
	list   []any
)

// parts are values of each type, those of names among them, and some of no type, made anew by each call.
func parts() []any {
	l := []any{nil, true, false, []byte{}, []byte("//a"), []byte{1}, []any{}, []any(nil), []any{[]any{}},
		1, 2, 0, uint(1), uint32(2), int64(1), 1.0, number(1), number(2), text("//a"), list{uint64(5), uint64(1)}, list{uint64(1), uint64(0)}, []uint64{5, 1}, [2]any{uint64(5), uint64(1)}, []string{"//a"}, eid.None(), api.Stamp{}, api.ErrForm, (*uint64)(nil), func() {},
		[]any{uint64(5)}, []any{uint64(5), uint64(1), uint64(0)}, []any{uint64(5), uint64(1), nil}, []any{"5", "1"}, []any{uint64(5), "1"}, []any{"5", uint64(1)}, []any{[]any{uint64(5), uint64(1)}}, []any{uint64(1), uint64(0)}, []any{uint64(1), "//a"}, []any{uint64(2), []any{uint64(5), uint64(1)}}}
	for _, n := range append(numbers(), 2, 3) {
		l = append(l, n, api.Minus(n), []any{n, n}, []any{n, uint64(1)}, []any{uint64(5), n})
	}
	for _, name := range append(rightNames()[:30], "", "dtn:none", "ipn:5.1", "5.1", "0") {
		l = append(l, name)
	}
	for _, name := range wrongNames()[:44] {
		l = append(l, name)
	}
	return l
}

// told reads a value by the chapter's words.
func told(v any) (api.Eid, api.Errno) {
	l, ok := v.([]any)
	if !ok || len(l) != 2 {
		return api.Eid{}, api.ErrType
	}
	name, isText := l[1].(string)
	n, isNumber := l[1].(uint64)
	two, isList := l[1].([]any)
	switch {
	case l[0] == uint64(1) && isText && somebody.MatchString(name):
		return api.Eid{Scheme: 1, Name: name}, api.OK
	case l[0] == uint64(1) && isNumber && n == 0:
		return api.Eid{Scheme: 1}, api.OK
	case l[0] == uint64(1) && (isText || isNumber):
		return api.Eid{}, api.ErrForm
	case l[0] == uint64(2) && isList && len(two) == 2:
		node, ok := two[0].(uint64)
		service, okToo := two[1].(uint64)
		if ok && okToo {
			return api.Eid{Scheme: 2, Node: node, Service: service}, api.OK
		}
	}
	return api.Eid{}, api.ErrType
}

// isTold looks at what is read of a value, and, if that is a name, at the way back.
func isTold(t *testing.T, v any) {
	t.Helper()
	wanted, err := told(v)
	e, f := eid.Of(v)
	want(t, v, e, f, wanted, err)
	if f == api.OK {
		back, g := eid.Value(e)
		want(t, e, back, g, v, api.OK)
	}
}

// P7.3: values whose bytes are known from elsewhere (RFC 9171), and the names.
func TestKnownValues(t *testing.T) {
	for s, digits := range map[string]string{
		"dtn:none": "820100", "dtn://a": "8201632f2f61", "dtn://host/app": "82016a2f2f686f73742f617070", "ipn:5.1": "8202820501", "ipn:0.0": "8202820000", "ipn:23.24": "820282171818", "ipn:1000.255": "8202821903e818ff", "ipn:18446744073709551615.65536": "8202821bffffffffffffffff1a00010000",
	} {
		b, _ := hex.DecodeString(digits)
		v, _ := item.Whole(b)
		e, f := eid.Of(v)
		got, _ := eid.Text(e)
		want(t, digits, got, f, s, api.OK)
		v, _ = eid.Value(e)
		row, f := item.Put(v)
		want(t, s, row, f, b, api.OK)
	}
}

// P7.3: of scheme 1 a number that is not 0, and texts that are no Name of a name that may be: nobody's name has a number.
func TestValuesOfWrongForm(t *testing.T) {
	l := []any{"", "none", "dtn:none", "dtn://a", "ipn:5.1", "0", "1", "a", strings.Repeat("a", 100000)}
	for _, n := range numbers()[1:] {
		l = append(l, n)
	}
	for _, name := range wrongNames() {
		l = append(l, name)
	}
	for _, v := range l {
		e, f := eid.Of([]any{uint64(1), v})
		want(t, v, e, f, api.Eid{}, api.ErrForm)
	}
}

// P7.3: values that are no list of the right types; of two faults that one.
func TestValuesOfWrongType(t *testing.T) {
	two, one := []any{uint64(5), uint64(1)}, uint64(1)
	l := []any{nil, uint64(0), uint64(1), uint64(2), api.Minus(0), []byte{1, 0}, "", "dtn:none", "ipn:5.1", true, false, two, 1, eid.None(), list{one, uint64(0)}, []uint64{1, 0}, []any(nil), []any{}, []any{one}, []any{uint64(2)}, []any{two}, []any{"//a"}, []any{nil}, []any{nil, nil},
		[]any{one, uint64(0), uint64(0)}, []any{one, "//a", nil}, []any{uint64(2), two, one}, []any{uint64(2), uint64(5), one}, []any{one, one, one}, []any{one, "none", one}, []any{nil, one, uint64(0)}, []any{[]any{one, uint64(0)}}, []any{[]any{uint64(2), two}}, []any{[]any{one, uint64(0)}, []any{one, uint64(0)}},
		[]any{uint64(0), uint64(0)}, []any{uint64(0), "//a"}, []any{uint64(3), uint64(0)}, []any{uint64(3), "//a"}, []any{uint64(3), "none"}, []any{uint64(3), two}, []any{uint64(257), uint64(0)}, []any{uint64(1<<32 + 1), uint64(0)}, []any{uint64(1<<32 + 2), two}, []any{uint64(greatest), uint64(0)}, []any{api.Minus(0), uint64(0)}, []any{api.Minus(1), two}, []any{1, uint64(0)}, []any{2, two}, []any{number(1), uint64(0)}, []any{"1", uint64(0)}, []any{"dtn", "//a"}, []any{[]byte{1}, "//a"}, []any{true, uint64(0)}, []any{nil, "none"}, []any{[]any{one}, one}, []any{uint64(0), one}, []any{"none", one},
		[]any{one, api.Minus(0)}, []any{one, []byte("//a")}, []any{one, []byte{}}, []any{one, two}, []any{one, []any{}}, []any{one, []any{"//a"}}, []any{one, nil}, []any{one, false}, []any{one, 0}, []any{one, text("//a")}, []any{one, text("none")}, []any{uint64(0), "//a"}, []any{"//a", one}, []any{uint64(0), one},
		[]any{uint64(2), uint64(0)}, []any{uint64(2), uint64(5)}, []any{uint64(2), "5.1"}, []any{uint64(2), "//a"}, []any{uint64(2), nil}, []any{uint64(2), true}, []any{uint64(2), []byte{5, 1}}, []any{uint64(2), api.Minus(5)}, []any{uint64(2), list{uint64(5), one}}, []any{uint64(2), []uint64{5, 1}}, []any{two, uint64(2)},
		[]any{uint64(2), []any{}}, []any{uint64(2), []any{uint64(5)}}, []any{uint64(2), []any{uint64(5), one, one}}, []any{uint64(2), []any{uint64(977000), uint64(5), one}}, []any{uint64(2), []any{"5", "1"}}, []any{uint64(2), []any{uint64(5), "1"}}, []any{uint64(2), []any{"5", one}}, []any{uint64(2), []any{two}}, []any{uint64(2), []any{two, two}}, []any{uint64(2), []any{uint64(5), nil}}, []any{uint64(2), []any{nil, one}}, []any{uint64(2), []any{api.Minus(0), one}}, []any{uint64(2), []any{uint64(5), api.Minus(0)}}, []any{uint64(2), []any{5, one}}, []any{uint64(2), []any{uint64(5), 1}}, []any{uint64(2), []any{[]byte{5}, one}}, []any{uint64(2), []any{true, false}}, []any{uint64(2), []any{uint64(2), two}}}
	deep := any(two)
	for range 1000 {
		deep = []any{uint64(2), deep}
		l = append(l, []any{deep}, []any{one, deep}, []any{uint64(2), []any{deep, deep}})
	}
	for _, v := range append(l, slices.Repeat(two, 5000)) {
		e, f := eid.Of(v)
		want(t, v, e, f, api.Eid{}, api.ErrType)
	}
}

// P7.3, P7.5: values of each type at each place: lists of none to three of them, alone and in the second place of another one.
func TestValuesOfParts(t *testing.T) {
	for _, a := range parts() {
		isTold(t, a)
		isTold(t, []any{a})
		isTold(t, []any{uint64(2), []any{a}})
		for _, b := range parts() {
			isTold(t, []any{a, b})
			isTold(t, []any{[]any{a, b}})
			isTold(t, []any{uint64(1), []any{a, b}})
			isTold(t, []any{uint64(2), []any{a, b}})
		}
		for _, v := range []any{uint64(0), "//a", []any{uint64(5), uint64(1)}} {
			isTold(t, []any{uint64(1), v, a})
			isTold(t, []any{uint64(2), v, a})
			isTold(t, []any{a, uint64(1), v})
			isTold(t, []any{uint64(2), []any{uint64(5), uint64(1), a}})
		}
	}
}

// P7.5: Of of Value is the name, by way of bytes, too, and no two names have one value.
func TestOfOfValue(t *testing.T) {
	values := map[string]api.Eid{}
	for _, e := range names() {
		v, _ := eid.Value(e)
		got, f := eid.Of(v)
		want(t, v, got, f, e, api.OK)
		row, f := item.Put(v)
		if other, ok := values[string(row)]; ok || f != api.OK {
			t.Errorf("%+v: %v, %d, as of %+v", e, v, f, other)
		}
		values[string(row)] = e
		w, _ := item.Whole(row)
		got, f = eid.Of(w)
		want(t, w, got, f, e, api.OK)
		isTold(t, w)
	}
}

// R3: what is handed in is not changed, its spare room neither, and that room counts for nothing; and it is not kept.
func TestValuesHandedInAreNotChanged(t *testing.T) {
	for _, e := range names() {
		v, _ := eid.Value(e)
		was, _ := eid.Value(e)
		roomy := append(slices.Clone(v.([]any)), uint64(7), "more")
		two, hasTwo := roomy[1].([]any)
		if hasTwo {
			two = append(slices.Clone(two), uint64(8), uint64(9))
			roomy[1] = two[:2]
		}
		got, f := eid.Of(roomy[:2])
		want(t, v, got, f, e, api.OK)
		if !reflect.DeepEqual(any(roomy[:2]), was) || !reflect.DeepEqual(roomy[2:], []any{uint64(7), "more"}) || hasTwo && !reflect.DeepEqual(two[2:], []any{uint64(8), uint64(9)}) {
			t.Errorf("%v became %v", was, roomy)
		}
		short, f := eid.Of(roomy[:1])
		want(t, roomy[:1], short, f, api.Eid{}, api.ErrType)
		for i := range two {
			two[i] = "spoilt"
		}
		clear(roomy)
		got, f = eid.Of(was)
		want(t, was, got, f, e, api.OK)
	}
}

// R3: what is answered is new memory, the list within, too.
func TestValuesAreNewMemory(t *testing.T) {
	for _, e := range names() {
		first, _ := eid.Value(e)
		second, _ := eid.Value(e)
		l := first.([]any)
		was := slices.Clone(l)
		if two, ok := l[1].([]any); ok {
			was[1] = slices.Clone(two)
			_ = append(two, "more", "more")
			_ = append(l, "more", "more")
			if !reflect.DeepEqual(l, was) {
				t.Errorf("%+v: its value's lists share spare room", e)
			}
			clear(two[:cap(two)])
		}
		clear(l[:cap(l)])
		third, f := eid.Value(e)
		want(t, e, third, f, any(was), api.OK)
		want(t, e, second, f, any(was), api.OK)
	}
}

// answers asks all there is of a name, a text and a value.
func answers(e api.Eid, s string, v any) []any {
	a, b := eid.Text(e)
	c, d := eid.Value(e)
	f, g := eid.Parse(s)
	h, i := eid.Of(v)
	return []any{eid.Right(e), eid.Host(e), a, b, c, d, f, g, h, i, eid.None()}
}

// R4: what is answered hangs on what is handed in, not on what was asked before.
func TestAnswersHangOnArgumentsAlone(t *testing.T) {
	all := names()
	for _, name := range wrongNames() {
		all = append(all, api.Eid{Scheme: 1, Name: name}, api.Eid{Scheme: 3, Name: name}, api.Eid{Scheme: 2, Name: name, Node: 5})
	}
	asked := func(e api.Eid) []any {
		return answers(e, "dtn:"+e.Name, []any{uint64(1), e.Name})
	}
	first := make([][]any, 0, len(all))
	for _, e := range all {
		first = append(first, asked(e))
	}
	for i, e := range slices.Backward(all) {
		if got := asked(e); !reflect.DeepEqual(got, first[i]) {
			t.Errorf("%s: %s, and then %s", brief(e), brief(first[i]), brief(got))
		}
	}
	v := []any{uint64(1), "//a"}
	for _, c := range []struct {
		at      int
		becomes any
		is      api.Errno
	}{{1, "none", api.ErrForm}, {1, "//a", api.OK}, {0, uint64(2), api.ErrType}, {1, []any{uint64(5), uint64(1)}, api.OK}, {0, uint64(1), api.ErrType}, {1, uint64(0), api.OK}} {
		v[c.at] = c.becomes
		if _, e := eid.Of(v); e != c.is {
			t.Errorf("%v, changed: %d, not %d", v, e, c.is)
		}
		isTold(t, v)
	}
}
