package place_test

import (
	"slices"
	"testing"

	"wagtail/api"
	"wagtail/latest"
	"wagtail/nand"
	"wagtail/page"
	"wagtail/place"
	"wagtail/scan"
)

// P20.1, P20.3: all rows of up to three versions with up to three copies each in three blocks, each choice of bad blocks.
func TestEachChoice(t *testing.T) {
	copies := rows(3, 3)
	for _, a := range copies {
		for _, b := range copies {
			for _, bad := range parts(3) {
				holds(t, set(a, b), bad)
			}
			for _, c := range copies {
				holds(t, set(a, b, c), nil)
				holds(t, set(a, b, c), []int{len(a) % 3})
			}
		}
	}
}

// P20.1, P20.3: all rows of four versions with one copy or two in four blocks, bad ones or none.
func TestEachChoiceOfFour(t *testing.T) {
	copies := slices.DeleteFunc(rows(4, 2), func(l []int) bool { return len(l) == 0 || len(l) == 2 && l[0] == l[1] })
	for i, a := range copies {
		for _, b := range copies {
			for _, c := range copies {
				for _, d := range copies {
					v := set(a, b, c, d)
					holdsPlaces(t, v, nil, chosen(v, nil)...)
					bad := []int{i % 4}
					holdsPlaces(t, v, bad, chosen(v, bad)...)
				}
			}
		}
	}
}

// P20.1, P20.3: many versions of many copies, in few blocks and in many; and those of numbers at the ends of their types.
func TestManyChoices(t *testing.T) {
	for seed := range 4000 {
		x := dice(seed)
		n := 2 + x.below(12)
		holds(t, x.versions(x.below(30), 1+x.below(8), n), x.blocks(x.below(4), n))
		holds(t, x.far(x.below(24)), nil)
		holds(t, x.far(x.below(24)), []int{ends()[x.below(19)], ends()[x.below(19)]})
	}
}

// P20.3: a choice that has come to its end stays, if it is asked for as the newest one.
func TestAChoiceStays(t *testing.T) {
	for seed := range 2000 {
		x := dice(seed)
		n := 2 + x.below(9)
		v, bad := placed(x.versions(x.below(20), 6, n)), x.blocks(x.below(3), n)
		l := place.Choose(v, bad)
		for i := range v {
			v[i].At = slices.Insert(slices.Clone(v[i].At), 0, l[i])
		}
		holdsPlaces(t, v, bad, l...)
	}
}

// P20.3: each place that is not the first one is the first copy of its version that is in a used block, and in no bad one.
func TestTheFirstCopyThatIsUsed(t *testing.T) {
	for seed := range 2000 {
		x := dice(seed)
		n := 2 + x.below(9)
		v, bad := placed(x.versions(x.below(20), 6, n)), x.blocks(x.below(3), n)
		l := place.Choose(v, bad)
		for i, c := range v {
			if slices.Contains(bad, c.At[0].Block) {
				if l[i] != c.At[0] {
					t.Fatalf("%v, bad %d: %v", c, bad, l[i])
				}
				continue
			}
			first := slices.IndexFunc(c.At, func(p api.Place) bool { return used(l, p.Block) && !slices.Contains(bad, p.Block) })
			if first < 0 || l[i] != c.At[first] {
				t.Fatalf("%v, bad %d: %v of %v", c, bad, l[i], l)
			}
		}
	}
}

// P20.2, P20.3: what is told of a choice goes together: its counts are as many as its places, no free block has one, and those in bad blocks are stuck.
func TestWhatIsToldGoesTogether(t *testing.T) {
	for seed := range 1000 {
		x := dice(seed)
		n := 2 + x.below(9)
		v, bad := x.versions(x.below(30), 5, n), x.blocks(x.below(4), n)
		l := place.Choose(v, bad)
		all, stuck := 0, 0
		for _, block := range place.Used(l) {
			all += place.Count(l, block)
			if slices.Contains(bad, block) {
				stuck += place.Count(l, block)
			}
		}
		if all != len(l) || stuck != len(place.Stuck(l, bad)) {
			t.Fatalf("%v, bad %d: %d counted, %d stuck", l, bad, all, stuck)
		}
		var each []int
		for block := -1; block < n; block++ {
			each = append(each, block)
		}
		for _, block := range place.Free(each, bad, l) {
			if place.Count(l, block) != 0 || slices.Contains(bad, block) {
				t.Fatalf("%v, bad %d: %d is free", l, bad, block)
			}
		}
	}
}

// P20.3: on a device where two pages of three were copied, and then the copying was left, the copies' block is free; when all three were, the block that they were in is.
func TestADevice(t *testing.T) {
	d, e := nand.New(api.Geom{Blocks: 8, Pages: 4, Reserve: 2}, nil, nil)
	if e != api.OK {
		t.Fatal(e)
	}
	put := func(block, number int, h api.Head) {
		if row, e := page.Put(h, "held"); e != api.OK || d.Program(at(block, number), row) != api.OK {
			t.Fatalf("%v at %d, %d", h, block, number)
		}
	}
	for lpn := range 3 {
		put(3, lpn, api.Head{Kind: api.KData, Count: 1, Batch: uint64(lpn + 1), Open: 1, Lpn: lpn, Len: 4})
	}
	for lpn, want := range [][]int{{2, 4, 5, 6, 7}, {2, 4, 5, 6, 7}, {2, 3, 5, 6, 7}} {
		put(4, lpn, api.Head{Kind: api.KData, Count: 1, Batch: uint64(lpn + 1), Open: 2, Lpn: lpn, Len: 4})
		finds, _ := scan.All(d)
		l := place.Choose(latest.Versions(finds, nil), nil)
		if got := place.Free(scan.Blocks(d), nil, l); !slices.Equal(got, want) {
			t.Errorf("%d copied: %v, %d free, not %d", lpn+1, l, got, want)
		}
	}
}

// R1: a great many versions, in as many blocks, are told, too, and blocks that are freed one behind the other.
func TestAGreatMany(t *testing.T) {
	const many = 1 << 16
	var v []api.Copies
	var some, bad []int
	for i := range many {
		v = append(v, in(i, i, i^1))
		some, bad = append(some, many-1-i), append(bad, 2*many-2*i)
	}
	l := place.Choose(v, nil)
	if len(l) != many || len(place.Used(l)) != many/2 || place.Count(l, many-1) != 2 {
		t.Fatalf("%d places in %d blocks", len(l), len(place.Used(l)))
	}
	for i, p := range l {
		// Of each two blocks the even one is freed.
		if p != at(i|1, i) {
			t.Fatalf("%v of %v", p, v[i])
		}
	}
	if got := place.Free(some, nil, l); len(got) != many/2 || got[0] != many-2 || got[many/2-1] != 0 {
		t.Errorf("%d free", len(got))
	}
	if got := place.Stuck(place.Choose(v, bad), bad); len(got) != many/2-1 || got[0] != at(2, 2) {
		t.Errorf("%d stuck", len(got))
	}
}
