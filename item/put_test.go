package item_test

import (
	"bytes"
	"slices"
	"strings"
	"testing"
	"unicode/utf8"

	"wagtail/api"
	"wagtail/item"
)

// placed is a value, and how many lists stand around it.
type placed struct {
	v      any
	around int
}

// inOrder tells a value and all that is in it, in order, a list ahead of what it has: what is in one takes its turn ahead of those that wait already.
func inOrder(v any) []placed {
	var l []placed
	for next := []placed{{v, 0}}; len(next) > 0; {
		p := next[0]
		next = next[1:]
		l = append(l, p)
		if in, ok := p.v.([]any); ok {
			var first []placed
			for _, w := range in {
				first = append(first, placed{w, p.around + 1})
			}
			next = append(first, next...)
		}
	}
	return l
}

// laid tells what Put of a value ought to be, by the chapter's words.
func laid(v any) ([]byte, api.Errno) {
	var row []byte
	for i, p := range inOrder(v) {
		if p.around > 16 || i >= 4096 {
			return nil, api.ErrBig
		}
		switch w := p.v.(type) {
		case uint64:
			row = append(row, lead(0, w)...)
		case api.Minus:
			row = append(row, lead(1, uint64(w))...)
		case []byte:
			row = append(append(row, lead(2, uint64(len(w)))...), w...)
		case string:
			if strings.ToValidUTF8(w, "") != w {
				return nil, api.ErrType
			}
			row = append(append(row, lead(3, uint64(len(w)))...), w...)
		case []any:
			row = append(row, lead(4, uint64(len(w)))...)
		case bool:
			row = append(row, map[bool]byte{false: 0xf4, true: 0xf5}[w])
		case nil:
			row = append(row, 0xf6)
		default:
			return nil, api.ErrType
		}
	}
	return row, api.OK
}

// isLaid tells what is wrong with Put of a value.
func isLaid(t *testing.T, v any) {
	t.Helper()
	got, e := item.Put(v)
	wanted, err := laid(v)
	want(t, "Put", got, e, wanted, err)
}

// P6.1: the chapter's example, and bytes that are known from elsewhere.
func TestPut(t *testing.T) {
	b, e := item.Put([]any{uint64(1), "h"})
	want(t, "the chapter's example", b, e, []byte{130, 1, 97, 104}, api.OK)
	for _, k := range known {
		b, e := item.Put(k.v)
		want(t, "Put", b, e, bytesOf(k.hex), api.OK)
	}
	b, e = item.Put([]any{uint64(300), api.Minus(300), []byte{255, 0}, "\u00e9", true, false, nil, []any{[]any{}, uint64(24)}})
	want(t, "Put of each type", b, e, bytesOf("88 19012c 39012c 42ff00 62c3a9 f5 f4 f6 82 80 1818"), api.OK)
}

// P6.1: each type, numbers at the ends of their widths, lengths at those, lists within one another.
func TestPutOfEachType(t *testing.T) {
	for _, v := range values() {
		if _, e := laid(v); e != api.OK {
			t.Fatalf("%.40v may not be", v)
		}
		isLaid(t, v)
		isLaid(t, []any{v, uint64(0)})
		isLaid(t, []any{nil, []any{v}, v})
	}
	for _, v := range []any{[]any(nil), []byte(nil), []any{[]any(nil), []byte(nil), any(error(nil))}} {
		isLaid(t, v)
	}
	b, e := item.Put([]any(nil))
	want(t, "Put of a nil list", b, e, []byte{0x80}, api.OK)
	b, e = item.Put([]byte(nil))
	want(t, "Put of nil bytes", b, e, []byte{0x40}, api.OK)
}

// P6.1: values of other types, those that look alike, too, alone, first, last, and within lists.
func TestPutOfOtherTypes(t *testing.T) {
	for i, v := range others() {
		for _, w := range []any{v, []any{v}, []any{v, uint64(1)}, []any{uint64(1), v}, []any{[]any{"a", []any{nil, v}}, []byte{1}}, nested(16, v)} {
			if b, e := item.Put(w); e != api.ErrType || b != nil {
				t.Errorf("Put of other value %d, %T, = %v, %d", i, v, b, e)
			}
		}
	}
}

// P6.1: texts that are valid UTF-8, and texts that are not: all of up to two bytes, and the edges of more.
func TestPutOfTexts(t *testing.T) {
	texts := slices.Concat(rightTexts, wrongTexts)
	for k := range 1 << 16 {
		texts = append(texts, string([]byte{byte(k >> 8), byte(k)}))
	}
	for k := range 256 {
		texts = append(texts, string([]byte{byte(k)}))
	}
	for _, s := range texts {
		isLaid(t, s)
		isLaid(t, []any{"a", []any{s}})
	}
	for _, s := range wrongTexts {
		for _, v := range []any{s, []any{s}, []any{uint64(1), "a" + s}, []any{[]any{"a", s, "b"}}, strings.Repeat("a", 70000) + s} {
			b, e := item.Put(v)
			want(t, "Put of a text that is not right", b, e, nil, api.ErrType)
		}
		b, e := item.Put([]byte(s))
		want(t, "Put of such bytes", b, e, append(lead(2, uint64(len(s))), s...), api.OK)
	}
	for r := rune(0); r <= utf8.MaxRune; r += 97 {
		isLaid(t, string(r))
	}
}

// P6.1: 16 lists around any value, and one more.
func TestPutOfDeepValues(t *testing.T) {
	for _, v := range []any{nil, true, uint64(1), api.Minus(1), "a", []byte{1}, []any{}, []any(nil)} {
		b, e := item.Put(nested(16, v))
		in, _ := item.Put(v)
		want(t, "Put of 16 around", b, e, append(bytes.Repeat([]byte{0x81}, 16), in...), api.OK)
		for _, around := range []int{17, 18, 30, 1000, 60000} {
			b, e := item.Put(nested(around, v))
			want(t, "Put of more around", b, e, nil, api.ErrBig)
		}
		for around := range 20 {
			isLaid(t, nested(around, v))
			isLaid(t, []any{uint64(1), nested(around, v), uint64(2)})
			isLaid(t, nested(around, []any{nested(3, v), nested(2, nil)}))
		}
	}
	isLaid(t, nested(16, []any{nil}))
	isLaid(t, slices.Repeat([]any{nested(15, nil)}, 240))
}

// P6.1: 4096 values together, and one more, flat and within one another.
func TestPutOfManyValues(t *testing.T) {
	for _, c := range []struct {
		v  any
		is api.Errno
	}{
		{upTo(4094), api.OK}, {upTo(4095), api.OK}, {upTo(4096), api.ErrBig}, {upTo(4097), api.ErrBig}, {upTo(100000), api.ErrBig},
		{[]any{upTo(4094)}, api.OK}, {[]any{upTo(4095)}, api.ErrBig}, {[]any{upTo(2046), upTo(2047)}, api.OK}, {[]any{upTo(2047), upTo(2047)}, api.ErrBig}, {[]any{upTo(4092), nil, nil}, api.OK}, {[]any{upTo(4092), nil, nil, nil}, api.ErrBig},
		{slices.Repeat([]any{upTo(62)}, 65), api.OK}, {append(slices.Repeat([]any{upTo(62)}, 65), nil), api.ErrBig}, {slices.Repeat([]any{[]any{}}, 4095), api.OK}, {slices.Repeat([]any{[]any{}}, 4096), api.ErrBig}, {slices.Repeat([]any{[]any{nil}}, 2047), api.OK}, {slices.Repeat([]any{[]any{nil}}, 2048), api.ErrBig},
		{nested(16, upTo(0)), api.OK}, {nested(15, upTo(4080)), api.OK}, {nested(15, upTo(4081)), api.ErrBig}, {make([]any, 4095), api.OK}, {make([]any, 4096), api.ErrBig},
	} {
		if _, e := item.Put(c.v); e != c.is {
			t.Errorf("Put of %d together: %d, not %d", item.Count(c.v), e, c.is)
		}
		isLaid(t, c.v)
	}
}

// P6.1: of two faults the one that is met first; of one value that it is too deep, or one too many.
func TestPutOfTwoFaults(t *testing.T) {
	deep, wrong, many := nested(17, nil), any("\xff"), upTo(4096)
	for i, c := range []struct {
		v  any
		is api.Errno
	}{
		{[]any{wrong, deep}, api.ErrType}, {[]any{deep, wrong}, api.ErrBig}, {[]any{3, many}, api.ErrType}, {[]any{many, 3}, api.ErrBig}, {[]any{[]any{3}, deep}, api.ErrType}, {[]any{[]any{nil, deep}, 3}, api.ErrBig},
		{nested(17, 3), api.ErrBig}, {nested(17, wrong), api.ErrBig}, {nested(16, 3), api.ErrType}, {nested(16, []any{3}), api.ErrBig}, {nested(16, wrong), api.ErrType},
		{append(upTo(4094), 3), api.ErrType}, {append(upTo(4095), 3), api.ErrBig}, {append(upTo(4095), wrong), api.ErrBig}, {append(upTo(4094), wrong, nil), api.ErrType}, {append([]any{3}, many...), api.ErrType}, {append([]any{wrong}, many...), api.ErrType},
		{append(upTo(4094), deep), api.ErrBig}, {[]any{nested(14, []any{nil, 3, []any{nil}}), deep}, api.ErrType}, {[]any{nested(15, []any{[]any{nil}, 3})}, api.ErrBig}, {[]any{nil, list{deep}}, api.ErrType},
	} {
		if b, e := item.Put(c.v); e != c.is || b != nil {
			t.Errorf("%d: Put = %v, %d, not %d", i, b, e, c.is)
		}
		isLaid(t, c.v)
	}
}
