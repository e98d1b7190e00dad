package item_test

import (
	"bytes"
	"reflect"
	"slices"
	"testing"

	"wagtail/api"
	"wagtail/item"
)

// spoil changes all memory that a value has, spare room, too.
func spoil(v any) {
	switch w := v.(type) {
	case []byte:
		all := w[:cap(w)]
		for i := range all {
			all[i] = 170
		}
	case []any:
		for _, in := range w {
			spoil(in)
		}
		all := w[:cap(w)]
		for i := range all {
			all[i] = "spoilt"
		}
	}
}

// roomy tells a value as it is, whose bytes and lists, those within, too, have spare room, in which something stands.
func roomy(v any) any {
	switch w := v.(type) {
	case []byte:
		return append(slices.Clone(w), 1, 2, 3)[:len(w)]
	case []any:
		l := make([]any, 0, len(w)+2)
		for _, in := range w {
			l = append(l, roomy(in))
		}
		return append(l, uint64(5), []byte{6})[:len(w)]
	}
	return v
}

// spares tells what stands in the spare room of a value, and of all that is in it.
func spares(v any) []any {
	var l []any
	for _, p := range inOrder(v) {
		switch w := p.v.(type) {
		case []byte:
			l = append(l, bytes.Clone(w[len(w):cap(w)]))
		case []any:
			l = append(l, slices.Clone(w[len(w):cap(w)]))
		}
	}
	return l
}

// asked calls all that answers memory, and all else, of a value, and tells what was answered.
func asked(v any) []any {
	b, _ := item.Put(v)
	w, _ := item.Whole(b)
	raw, _ := item.Bytes(v)
	l, _ := item.List(v)
	answers := []any{b, w, raw, l, item.Count(v), item.Must(v, 0), item.Same(v, v)}
	for i := range min(len(l), 30) {
		answers = append(answers, item.At(v, i))
	}
	return answers
}

// R3: what is handed in is not changed, its spare room neither, and that room counts for nothing.
func TestNothingHandedInIsChanged(t *testing.T) {
	for _, was := range values() {
		v := roomy(was)
		spare := spares(v)
		if got, wanted := asked(v), asked(was); !reflect.DeepEqual(got, wanted) {
			t.Errorf("of %.40v, with spare room: %.80v, not %.80v", was, got, wanted)
		}
		if !reflect.DeepEqual(v, was) || !reflect.DeepEqual(spares(v), spare) {
			t.Errorf("%.40v became %.40v", was, v)
		}
		row, _ := item.Put(v)
		whole := append(slices.Clone(row), 0xa0, 0xff)
		short := whole[:len(row)]
		w, n, e := item.Get(short)
		want(t, "Get", w, e, was, api.OK)
		w, e = item.Whole(short)
		want(t, "Whole", w, e, was, api.OK)
		if n != len(row) || !bytes.Equal(whole, append(slices.Clone(row), 0xa0, 0xff)) {
			t.Errorf("%.40v: bytes became %.40v", was, whole)
		}
		isNone(t, whole[:len(row)-1], api.ErrShort)
	}
}

// R3: what is answered is new memory, that of bytes and lists within, too: what is done with it changes nothing handed in, nor the other way round.
func TestAnswersAreNewMemory(t *testing.T) {
	for i, was := range values() {
		for k := range asked(was) {
			v := roomy(was)
			spare := spares(v)
			spoil(asked(v)[k])
			if !reflect.DeepEqual(v, was) || !reflect.DeepEqual(spares(v), spare) {
				t.Fatalf("value %d: answer %d shares memory with what was handed in", i, k)
			}
			if !reflect.DeepEqual(asked(v), asked(was)) {
				t.Fatalf("value %d: answer %d, spoilt, changes others", i, k)
			}
		}
		v := roomy(was)
		got := asked(v)
		spoil(v)
		if !reflect.DeepEqual(got, asked(was)) {
			t.Errorf("value %d: what was handed in, spoilt, changes answers", i)
		}
	}
}

// R3: what Get and Whole answer has nothing of the bytes that were handed in.
func TestReadValuesAreNewMemory(t *testing.T) {
	for i, was := range values() {
		row, _ := item.Put(was)
		b := slices.Clone(row)
		v, _, _ := item.Get(b)
		w, _ := item.Whole(b)
		spoil(v)
		if !bytes.Equal(b, row) || !reflect.DeepEqual(w, was) {
			t.Errorf("value %d: what Get tells shares memory", i)
		}
		u, _, _ := item.Get(b)
		spoil(w)
		if !bytes.Equal(b, row) || !reflect.DeepEqual(u, was) {
			t.Errorf("value %d: what Whole tells shares memory", i)
		}
		v, _, _ = item.Get(b)
		w, _ = item.Whole(b)
		spoil(b)
		if !reflect.DeepEqual(v, was) || !reflect.DeepEqual(w, was) {
			t.Errorf("value %d: its bytes, spoilt, change it", i)
		}
	}
}

// R3: no two lists, nor bytes, of one answer share memory, though one stands at two places of what was handed in.
func TestAnswersShareNothingWithin(t *testing.T) {
	raw := []byte{1, 2}
	in := []any{raw, raw}
	v := []any{in, in, raw, []any{in}}
	row, _ := item.Put(v)
	read, _ := item.Whole(row)
	listed, _ := item.List(v)
	at := item.At([]any{v}, 0)
	for i, answer := range []any{read, any(listed), at} {
		l := answer.([]any)
		spoil(l[0])
		l[1].([]any)[0].([]byte)[0] = 9
		wanted := []any{[]any{[]byte{9, 2}, []byte{1, 2}}, []byte{1, 2}, []any{[]any{[]byte{1, 2}, []byte{1, 2}}}}
		if !reflect.DeepEqual(l[1:], wanted) {
			t.Errorf("answer %d shares memory within: %v", i, l)
		}
	}
	if !bytes.Equal(raw, []byte{1, 2}) {
		t.Error("what was handed in became", raw)
	}
}

// R3: each piece of memory that one answer has: none is another one's spare room.
func TestSpareRoomIsNotShared(t *testing.T) {
	row, _ := item.Put([]any{[]byte{1}, []byte{}, []byte{2, 3}, []any{}, []any{[]byte{4}, []any{}}, []byte{5}})
	count := 0
	for k := 0; k == 0 || k < count; k++ {
		v, _ := item.Whole(row)
		pieces := inOrder(v)
		count = len(pieces)
		if b, ok := pieces[k].v.([]byte); ok {
			_ = append(b, 170, 170, 170)
		}
		if l, ok := pieces[k].v.([]any); ok {
			_ = append(l, "more", "more")
		}
		if again, _ := item.Put(v); !bytes.Equal(again, row) {
			t.Errorf("what is put behind piece %d changes others: %v", k, again)
		}
	}
}

// R4: what is answered hangs on what is handed in, as it is now, not on what was asked before.
func TestAnswersHangOnArgumentsAlone(t *testing.T) {
	first := make([][]any, 0)
	for _, v := range values() {
		first = append(first, asked(v))
	}
	item.Put(upTo(5000))
	item.Whole(around(17, nil))
	item.Put([]any{3})
	item.Whole(bytesOf("82 a0"))
	for i, v := range slices.Backward(values()) {
		if !reflect.DeepEqual(asked(v), first[i]) {
			t.Errorf("of value %d the same was asked, and something else answered", i)
		}
	}
	b := bytesOf("82 42 0102 61 61")
	v := any([]any{[]byte{1, 2}, "a"})
	for i := range b {
		b[i] ^= 255
		item.Get(b)
		b[i] ^= 255
		w, e := item.Whole(b)
		want(t, "Whole", w, e, v, api.OK)
	}
	l := []any{[]byte{1, 2}, "a"}
	l[1] = 3
	if _, e := item.Put(l); e != api.ErrType || item.Same(l, v) {
		t.Error("Put of what was changed:", e)
	}
	l[1] = "a"
	got, e := item.Put(l)
	want(t, "Put", got, e, b, api.OK)
	l[0].([]byte)[0]++
	if item.Same(l, v) {
		t.Error("Same, though a byte was changed")
	}
}
