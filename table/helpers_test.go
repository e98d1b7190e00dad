package table_test

import (
	"bytes"
	"math"
	"math/bits"
	"slices"
	"testing"

	"wagtail/api"
	"wagtail/page"
	"wagtail/table"
)

// ints are numbers at the edges of blocks and of counts of erases, of bytes and words, and of int itself.
func ints() []int {
	return []int{math.MinInt, math.MinInt + 1, math.MinInt + 3, math.MinInt / 2, -1 << 32, -1<<32 + 3, -1 << 31, -65536, -65535, -256, -34, -33, -8, -2, -1, 0, 1, 2, 7, 8, 9, 31, 32, 33, 34, 35, 36, 39, 40, 63, 64, 67, 255, 256, 257, 32767, 32768, 65534, 65535, 65536, 65537, 65536 + 33, 1<<31 - 1, 1 << 31, 1 << 32, 1<<32 + 3, 1 << 62, math.MaxInt - 1, math.MaxInt}
}

// longs are numbers at the edges of batches, of bytes and words, and of uint64 itself, rising.
func longs() []uint64 {
	return []uint64{0, 1, 2, 33, 34, 255, 256, 65535, 65536, 1<<24 - 1, 1 << 24, 0x01020304, 1 << 30, 1<<31 - 2, 1<<31 - 1, 1 << 31, 1<<31 + 1, 1<<32 - 1, 1 << 32, 1<<32 + 5, 1<<56 + 1, 1<<63 - 1, 1 << 63, 1<<63 + 7, math.MaxUint64 - 1, math.MaxUint64}
}

// row are the numbers from 0 on, so many.
func row(n int) []int {
	l := []int{}
	for i := range n {
		l = append(l, i)
	}
	return l
}

// flat are so many of one number.
func flat(n, of int) []int {
	l := []int{}
	for range n {
		l = append(l, of)
	}
	return l
}

// steps are so many numbers, rising from one on.
func steps(n int, from, by uint64) []uint64 {
	l := []uint64{}
	for i := range n {
		l = append(l, from+uint64(i)*by)
	}
	return l
}

// mayBe tells whether a table may be, as the chapter's Words say.
func mayBe(t api.Table) bool {
	right := t.Seq < 2147483648 && len(t.Wear) <= 34 && len(t.Void) <= 36
	last := -1
	for _, b := range t.Bad {
		right = right && b > last && b <= 33
		last = b
	}
	for _, n := range t.Wear {
		right = right && n >= 0 && n <= 65535
	}
	for i, n := range t.Void {
		right = right && n < 2147483648 && (i == 0 || n > t.Void[i-1])
	}
	return right
}

// few are some tables that may be: of nothing, of the most and the greatest that there may be, and others.
func few() []api.Table {
	return []api.Table{
		{},
		{Seq: 1<<31 - 1, Bad: row(34), Wear: flat(34, 65535), Void: steps(36, 1<<31-36, 1)},
		{Seq: 1, Bad: []int{0, 33}, Wear: []int{5, 65535}, Void: []uint64{7}},
		{Seq: 0x01020304, Bad: []int{3}, Wear: []int{0x0506, 0x0708, 0}, Void: []uint64{0x090a0b0c, 0x0d0e0f10}},
		{Seq: 255, Wear: flat(34, 0)},
		{Seq: 256, Bad: []int{7, 8, 15, 16, 23, 24, 31, 32}, Wear: row(17)},
		{Seq: 9, Bad: []int{33}, Void: []uint64{0}},
		{Seq: 1 << 30, Bad: []int{2, 5, 11}, Wear: append(row(33), 256), Void: []uint64{0, 1, 2, 255, 256, 1<<31 - 1}},
		{Seq: 65536, Wear: []int{1}, Void: steps(36, 0, 61356675)},
	}
}

// number are the bytes of a number, so many, the highest first.
func number(w int, n uint64) []byte {
	b := make([]byte, w)
	for i := range b {
		b[w-1-i] = byte(n >> (8 * i))
	}
	return b
}

// record are a table's data, as the chapter's Words say, whatever its lists have, as far as the bytes have room for it.
func record(t api.Table) []byte {
	all := uint64(0)
	for _, b := range t.Bad {
		if b >= 0 && b < 40 {
			all |= 1 << b
		}
	}
	// The block 0 has the lowest bit of the first byte: the bytes of all the bits stand the lowest first.
	l := number(5, all)
	slices.Reverse(l)
	for _, n := range t.Wear {
		l = append(l, number(2, uint64(n))...)
	}
	for len(l) < 5+34*2 {
		l = append(l, 0)
	}
	l = append(l, byte(len(t.Void)))
	for _, n := range t.Void {
		l = append(l, number(4, n)...)
	}
	return l
}

// top is the head of a table's page, as the chapter's Words say, with so many bytes of data.
func top(t api.Table, size int) api.Head {
	return api.Head{Kind: 1, Index: 0, Count: 1, Batch: t.Seq, Open: 0, Lpn: len(t.Wear), Len: size}
}

// sealed are 252 bytes, and how many of their bits are 0.
func sealed(b []byte) []byte {
	n := 0
	for _, x := range b[:252] {
		n += 8 - bits.OnesCount8(x)
	}
	return slices.Concat(b[:252], number(4, uint64(n)))
}

// framed are the bytes of a page of a head and of data, as layer 15 says.
func framed(h api.Head, data []byte) []byte {
	b := slices.Concat([]byte{byte(h.Kind), byte(h.Index), byte(h.Count), 0}, number(8, h.Batch), number(8, h.Open), number(2, uint64(h.Lpn)), number(2, uint64(h.Len)), data)
	return sealed(append(b, bytes.Repeat([]byte{255}, 252)...))
}

// laid are the bytes of a table's page.
func laid(t api.Table) []byte {
	data := record(t)
	return framed(top(t, len(data)), data)
}

// blank are the bytes of a page that was never programmed.
func blank() []byte {
	return bytes.Repeat([]byte{255}, 256)
}

// told is the table that a page's head and data tell, as the chapter's Words say, each part by itself; false: they are no table's.
func told(h api.Head, data string) (api.Table, bool) {
	if h.Kind != 1 || h.Count != 1 || h.Index != 0 || h.Open != 0 || h.Lpn > 34 || len(data) < 74 {
		return api.Table{}, false
	}
	voids := int(data[73])
	if voids > 36 || len(data) != 74+4*voids || data[4]&^3 != 0 {
		return api.Table{}, false
	}
	t := api.Table{Seq: h.Batch}
	for b := range 34 {
		if data[b/8]&(1<<(b%8)) != 0 {
			t.Bad = append(t.Bad, b)
		}
		n := int(data[5+2*b])*256 + int(data[6+2*b])
		if b < h.Lpn {
			t.Wear = append(t.Wear, n)
		} else if n != 0 {
			return api.Table{}, false
		}
	}
	for i := range voids {
		x := data[74+4*i:][:4]
		t.Void = append(t.Void, uint64(x[0])<<24|uint64(x[1])<<16|uint64(x[2])<<8|uint64(x[3]))
	}
	return t, mayBe(t)
}

// meant is what Get of bytes is, as the chapter says.
func meant(b []byte) (api.Table, api.Errno) {
	h, data, e := page.Get(b)
	if e != api.OK {
		return api.Table{}, e
	}
	if t, ok := told(h, data); ok {
		return t, api.OK
	}
	return api.Table{}, api.ErrForm
}

// alike tells whether tables have the same numbers.
func alike(a, b api.Table) bool {
	return a.Seq == b.Seq && equal(a.Bad, b.Bad) && equal(a.Wear, b.Wear) && equal(a.Void, b.Void)
}

// equal tells whether lists have the same numbers.
func equal[N int | uint64](a, b []N) bool {
	if len(a) != len(b) {
		return false
	}
	for i := range a {
		if a[i] != b[i] {
			return false
		}
	}
	return true
}

// nothing tells whether a table is the zero one, as far as it may be told (R3).
func nothing(t api.Table) bool {
	return t.Seq == 0 && len(t.Bad) == 0 && len(t.Wear) == 0 && len(t.Void) == 0
}

// own is a table with lists of its own.
func own(t api.Table) api.Table {
	return api.Table{Seq: t.Seq, Bad: slices.Clone(t.Bad), Wear: slices.Clone(t.Wear), Void: slices.Clone(t.Void)}
}

// put is the page of a table that there may be.
func put(t *testing.T, x api.Table) []byte {
	t.Helper()
	b, e := table.Put(x)
	if e != api.OK || len(b) != 256 {
		t.Fatalf("Put(%v): %d bytes, error %d", x, len(b), e)
	}
	return b
}

// hold holds what Get tells of bytes against what they are, and tells its error.
func hold(t *testing.T, b []byte) api.Errno {
	t.Helper()
	want, err := meant(b)
	x, e := table.Get(b)
	if e != err || !alike(x, want) {
		t.Fatalf("Get(%d) = %v, error %d; not %v, %d", b, x, e, want, err)
	}
	return e
}

// refused tells whether Get refuses bytes with an error.
func refused(t *testing.T, what string, b []byte, err api.Errno) {
	t.Helper()
	if x, e := table.Get(b); e != err || !nothing(x) {
		t.Errorf("%s: %v, error %d, not %d", what, x, e, err)
	}
}

// dice are numbers from a rule, others of each seed.
type dice uint32

// below is the next number, from 0 on, below n.
func (x *dice) below(n int) int {
	*x = *x*1664525 + 1013904223
	return int(*x>>8) % n
}

// long is the next number below 2^31.
func (x *dice) long() uint64 {
	return uint64(x.below(1<<16))<<15 | uint64(x.below(1<<15))
}

// blocks are some of the blocks, rising.
func (x *dice) blocks() []int {
	l, one := []int{}, 1+x.below(8)
	for b := range 34 {
		if x.below(one) == 0 {
			l = append(l, b)
		}
	}
	return l
}

// table is a table that may be.
func (x *dice) table() api.Table {
	t := api.Table{Seq: x.long(), Bad: x.blocks()}
	for range x.below(35) {
		t.Wear = append(t.Wear, x.below(65536)>>x.below(16))
	}
	for range x.below(37) {
		t.Void = append(t.Void, x.long()>>x.below(31))
	}
	slices.Sort(t.Void)
	t.Void = slices.Compact(t.Void)
	return t
}

// any is a table that may be, or not, of numbers at edges, in any order.
func (x *dice) any() api.Table {
	t := api.Table{Seq: longs()[x.below(len(longs()))]}
	for range x.below(6) {
		t.Bad = append(t.Bad, ints()[x.below(len(ints()))])
	}
	for range x.below(40) {
		t.Wear = append(t.Wear, ints()[x.below(len(ints()))])
	}
	for range x.below(40) {
		t.Void = append(t.Void, longs()[x.below(len(longs()))])
	}
	return t
}

// many are tables that may be: those few, and others.
func many() []api.Table {
	l, x := few(), dice(16)
	for range 60 {
		l = append(l, x.table())
	}
	return l
}

// wrong are tables that may not be: of one fault each, and of several.
func wrong() []api.Table {
	return []api.Table{
		{Seq: 1 << 31},
		{Seq: math.MaxUint64, Bad: []int{4}},
		{Bad: []int{-1}},
		{Bad: []int{34}},
		{Bad: []int{-1, 0, 33, 34}},
		{Bad: []int{3, 3}},
		{Bad: []int{5, 3}},
		{Bad: []int{9, 2, 33, 2, 0}},
		{Bad: []int{math.MinInt, math.MaxInt}},
		{Bad: append(row(34), 33)},
		{Bad: row(35)},
		{Wear: []int{-1}},
		{Wear: []int{0, 65536}},
		{Wear: flat(35, 1)},
		{Wear: []int{math.MaxInt, math.MinInt}},
		{Void: []uint64{1 << 31}},
		{Void: []uint64{5, 5}},
		{Void: []uint64{7, 5, 6}},
		{Void: steps(37, 0, 1)},
		{Void: []uint64{math.MaxUint64, 0, math.MaxUint64}},
		{Seq: 1 << 31, Bad: []int{7, 1, 40, -3}, Wear: flat(40, -1), Void: steps(50, 1<<31, 3)},
	}
}
