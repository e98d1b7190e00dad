package table_test

import (
	"math"
	"slices"
	"testing"

	"wagtail/api"
	"wagtail/table"
)

// inserted is a list in order with one number more at its place, if it is not there.
func inserted[N int | uint64](l []N, n N) []N {
	var out []N
	for _, x := range l {
		if x < n {
			out = append(out, x)
		}
	}
	out = append(out, n)
	for _, x := range l {
		if x > n {
			out = append(out, x)
		}
	}
	return out
}

// with holds With of a table, and a block, against what it ought to be: all else is as it was.
func with(t *testing.T, x api.Table, block int) api.Table {
	t.Helper()
	want := own(x)
	want.Bad = inserted(x.Bad, block)
	got := table.With(x, block)
	if !alike(got, want) {
		t.Fatalf("With(%v, %d) = %v, not %v", x, block, got, want)
	}
	if !table.IsBad(got, block) {
		t.Fatalf("%d is not bad in %v", block, got)
	}
	return got
}

// voided holds Voided of a table, and a batch, against what it ought to be: all else is as it was.
func voided(t *testing.T, x api.Table, batch uint64) api.Table {
	t.Helper()
	want := own(x)
	want.Void = inserted(x.Void, batch)
	got := table.Voided(x, batch)
	if !alike(got, want) {
		t.Fatalf("Voided(%v, %d) = %v, not %v", x, batch, got, want)
	}
	if !table.IsVoid(got, batch) {
		t.Fatalf("%d is not void in %v", batch, got)
	}
	return got
}

// P16.3: blocks ahead, between, behind, and there already, written out.
func TestWithWrittenOut(t *testing.T) {
	x := api.Table{Seq: 4, Bad: []int{3, 9}, Wear: []int{7}, Void: []uint64{5}}
	for block, want := range map[int][]int{0: {0, 3, 9}, 2: {2, 3, 9}, 3: {3, 9}, 4: {3, 4, 9}, 8: {3, 8, 9}, 9: {3, 9}, 10: {3, 9, 10}, 33: {3, 9, 33}} {
		if got := table.With(x, block); !alike(got, api.Table{Seq: 4, Bad: want, Wear: []int{7}, Void: []uint64{5}}) {
			t.Errorf("With %d: %v", block, got)
		}
	}
}

// P16.3: batches ahead, between, behind, and there already, written out.
func TestVoidedWrittenOut(t *testing.T) {
	x := api.Table{Seq: 4, Bad: []int{3}, Wear: []int{7}, Void: []uint64{5, 1 << 30}}
	for batch, want := range map[uint64][]uint64{0: {0, 5, 1 << 30}, 4: {4, 5, 1 << 30}, 5: {5, 1 << 30}, 6: {5, 6, 1 << 30}, 1<<30 - 1: {5, 1<<30 - 1, 1 << 30}, 1 << 30: {5, 1 << 30}, 1<<31 - 1: {5, 1 << 30, 1<<31 - 1}} {
		if got := table.Voided(x, batch); !alike(got, api.Table{Seq: 4, Bad: []int{3}, Wear: []int{7}, Void: want}) {
			t.Errorf("Voided %d: %v", batch, got)
		}
	}
}

// P16.3: each block with each of many tables; the table may be still.
func TestWith(t *testing.T) {
	for _, x := range many() {
		for block := range 34 {
			got := with(t, x, block)
			if table.Check(got) != api.OK || len(got.Bad) > 34 {
				t.Fatalf("With(%v, %d) = %v may not be", x, block, got)
			}
			if slices.Contains(x.Bad, block) != table.Same(x, got) {
				t.Fatalf("With(%v, %d) = %v", x, block, got)
			}
			if !table.Same(with(t, got, block), got) {
				t.Fatalf("%d is twice in %v", block, got)
			}
		}
	}
}

// P16.3: batches of many kinds with each of many tables; the table may be still, if it was not full.
func TestVoided(t *testing.T) {
	d := dice(163)
	for _, x := range many() {
		batches := append(slices.Clone(x.Void), 0, 1, 2, 255, 1<<30, 1<<31-2, 1<<31-1, d.long(), d.long(), d.long()>>16)
		for _, n := range x.Void {
			batches = append(batches, n+1, max(n, 1)-1)
		}
		for _, batch := range batches {
			got := voided(t, x, batch)
			if there := slices.Contains(x.Void, batch); there != table.Same(x, got) || batch < 1<<31 && (len(got.Void) <= 36) != (table.Check(got) == api.OK) {
				t.Fatalf("Voided(%v, %d) = %v", x, batch, got)
			}
			if !table.Same(voided(t, got, batch), got) {
				t.Fatalf("%d is twice in %v", batch, got)
			}
		}
	}
}

// P16.3: numbers out of their bounds are added as any others: the table may not be, then.
func TestWithOutOfBounds(t *testing.T) {
	for _, x := range many()[:20] {
		for _, block := range ints() {
			if got := with(t, x, block); (table.Check(got) == api.OK) != (block >= 0 && block < 34) {
				t.Errorf("With %d: error %d", block, table.Check(got))
			}
		}
		if len(x.Void) == 36 {
			continue
		}
		for _, batch := range longs() {
			if got := voided(t, x, batch); (table.Check(got) == api.OK) != (batch < 1<<31) {
				t.Errorf("Voided %d: error %d", batch, table.Check(got))
			}
		}
	}
}

// P16.3: tables that are full: of all blocks nothing is added, of 36 Void one more, and the table may not be.
func TestWithOfFullTables(t *testing.T) {
	full := few()[1]
	for block := range 34 {
		if got := with(t, full, block); !table.Same(got, full) {
			t.Errorf("With %d: %v", block, got)
		}
	}
	for _, n := range full.Void {
		if got := voided(t, full, n); !table.Same(got, full) || table.Check(got) != api.OK {
			t.Errorf("Voided %d: %v", n, got)
		}
	}
	for _, n := range []uint64{0, 1, 1<<31 - 37} {
		got := voided(t, full, n)
		if len(got.Void) != 37 || table.Check(got) != api.ErrRange {
			t.Errorf("Voided %d: %d Void, error %d", n, len(got.Void), table.Check(got))
		}
	}
	with(t, full, 34)
	with(t, full, -1)
}

// P16.3: blocks and batches added one by one, in any order, are in order at last.
func TestWithOneByOne(t *testing.T) {
	d := dice(166)
	for range 60 {
		x, blocks, batches := api.Table{Seq: 2, Wear: []int{1, 2}}, row(34), steps(36, 3, 5)
		for i := range blocks {
			k := i + d.below(34-i)
			blocks[i], blocks[k] = blocks[k], blocks[i]
		}
		for i := range batches {
			k := i + d.below(36-i)
			batches[i], batches[k] = batches[k], batches[i]
		}
		for i, n := range batches {
			x = voided(t, with(t, x, blocks[i%34]), n)
		}
		if !alike(x, api.Table{Seq: 2, Bad: row(34), Wear: []int{1, 2}, Void: steps(36, 3, 5)}) {
			t.Fatalf("%v of %v, %v", x, blocks, batches)
		}
	}
}

// sorted are a list's numbers, in order.
func sorted[N int | uint64](l []N) []N {
	l = slices.Clone(l)
	slices.Sort(l)
	return l
}

// P16.3: tables that may not be have what is added, once, and all that they had, and nothing else.
func TestWithOfWrong(t *testing.T) {
	d := dice(167)
	l := wrong()
	for range 300 {
		l = append(l, d.any())
	}
	for _, x := range l {
		for _, block := range append(ints(), x.Bad...) {
			want, got := own(x), table.With(x, block)
			if !slices.Contains(x.Bad, block) {
				want.Bad = append(want.Bad, block)
			}
			want.Bad = sorted(want.Bad)
			if !table.IsBad(got, block) || !alike(want, api.Table{Seq: got.Seq, Bad: sorted(got.Bad), Wear: got.Wear, Void: got.Void}) {
				t.Fatalf("With(%v, %d) = %v", x, block, got)
			}
		}
		for _, batch := range append(longs(), x.Void...) {
			want, got := own(x), table.Voided(x, batch)
			if !slices.Contains(x.Void, batch) {
				want.Void = append(want.Void, batch)
			}
			want.Void = sorted(want.Void)
			if !table.IsVoid(got, batch) || !alike(want, api.Table{Seq: got.Seq, Bad: got.Bad, Wear: got.Wear, Void: sorted(got.Void)}) {
				t.Fatalf("Voided(%v, %d) = %v", x, batch, got)
			}
		}
	}
}

// P16.3: a block is bad, a batch void, if it is there, and each other one is not.
func TestIsBadAndIsVoid(t *testing.T) {
	for _, x := range append(many(), wrong()...) {
		bad, void := map[int]int{}, map[uint64]int{}
		for _, b := range x.Bad {
			bad[b]++
		}
		for _, n := range x.Void {
			void[n]++
		}
		for _, b := range append(append(row(50), ints()...), x.Bad...) {
			if table.IsBad(x, b) != (bad[b] > 0) {
				t.Errorf("IsBad(%v, %d) = %v", x, b, bad[b] == 0)
			}
		}
		for _, n := range append(append(steps(50, 0, 1), longs()...), x.Void...) {
			for _, n := range []uint64{n, n + 1, n - 1, n ^ 1<<32} {
				if table.IsVoid(x, n) != (void[n] > 0) {
					t.Errorf("IsVoid(%v, %d) = %v", x, n, void[n] == 0)
				}
			}
		}
	}
}

// P16.3: of a table of nothing no block is bad, and no batch void; Wear and Seq are no such numbers.
func TestIsBadAndIsVoidOfNothing(t *testing.T) {
	for _, x := range []api.Table{{}, {Bad: []int{}, Void: []uint64{}}, {Seq: 7, Wear: row(34)}} {
		for _, b := range ints() {
			if table.IsBad(x, b) {
				t.Errorf("%d is bad in %v", b, x)
			}
		}
		for _, n := range longs() {
			if table.IsVoid(x, n) || table.IsVoid(x, 7) {
				t.Errorf("%d is void in %v", n, x)
			}
		}
	}
	x := api.Table{Bad: []int{3, 9}, Void: []uint64{5, math.MaxUint64}}
	if table.IsBad(x, 5) || table.IsVoid(x, 3) || !table.IsBad(x, 9) || !table.IsVoid(x, math.MaxUint64) {
		t.Error("Bad and Void are taken for each other")
	}
}
