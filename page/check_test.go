package page_test

import (
	"math"
	"testing"

	"wagtail/api"
	"wagtail/page"
)

// held holds what Check, and Put of as many bytes as Len says, tell of a head against whether it may be.
func held(t *testing.T, h api.Head) {
	t.Helper()
	want := api.ErrRange
	if mayBe(h) {
		want = api.OK
	}
	if e := page.Check(h); e != want {
		t.Fatalf("Check(%v): error %d, not %d", h, e, want)
	}
	data := texts(min(max(h.Len, 0), 300))[2]
	b, e := page.Put(h, data)
	if e != want || len(b) > 0 && e != api.OK {
		t.Fatalf("Put(%v): error %d, not %d, %d bytes", h, e, want, len(b))
	}
}

// P15.1: a head may be, or not, by each of its numbers, to the types' ends.
func TestCheckOfEachNumber(t *testing.T) {
	for _, h := range few() {
		if e := page.Check(h); e != api.OK {
			t.Fatalf("Check(%v): error %d", h, e)
		}
		for _, x := range others(h) {
			held(t, x)
		}
	}
}

// P15.1: each kind, and those next to them.
func TestCheckOfKinds(t *testing.T) {
	for kind := -3; kind < 300; kind++ {
		e := page.Check(head(kind, 0, 1, 0, 0, 0, 0))
		if (e == api.OK) != (kind >= api.KTable && kind <= api.KSuper) || e != api.OK && e != api.ErrRange {
			t.Errorf("of Kind %d: error %d", kind, e)
		}
	}
}

// P15.1: Index is held against Count, not against what Count may be at most.
func TestCheckOfIndexAndCount(t *testing.T) {
	for count := -2; count <= 20; count++ {
		for index := -3; index <= 21; index++ {
			want := api.ErrRange
			if count >= 1 && count <= 16 && index >= 0 && index <= count-1 {
				want = api.OK
			}
			if e := page.Check(head(3, index, count, 5, 5, 5, 5)); e != want {
				t.Errorf("of Index %d, Count %d: error %d, not %d", index, count, e, want)
			}
		}
	}
	for _, count := range ints() {
		for _, index := range []int{count - 1, count, count + 1, 0, -1, math.MinInt, math.MaxInt} {
			held(t, head(2, index, count, 0, 0, 0, 0))
		}
	}
}

// P15.1: all numbers at their edges, each with each other, so that none, one, or several are wrong at once.
func TestCheckOfAllEdgesTogether(t *testing.T) {
	ends := []uint64{0, 1<<31 - 1, 1 << 31, math.MaxUint64}
	rights := 0
	for _, kind := range []int{-1, 0, 1, 5, 6} {
		for _, count := range []int{0, 1, 16, 17} {
			for _, index := range []int{-1, 0, count - 1, count} {
				for _, batch := range ends {
					for _, open := range ends {
						for _, lpn := range []int{-1, 0, 65535, 65536} {
							for _, size := range []int{-1, 0, 228, 229} {
								h := head(kind, index, count, batch, open, lpn, size)
								held(t, h)
								if mayBe(h) {
									rights++
								}
							}
						}
					}
				}
			}
		}
	}
	// Of Count 1, Index 0 comes twice: as the least and as the greatest one.
	if rights != 2*(2+2)*2*2*2*2 {
		t.Errorf("%d heads may be", rights)
	}
}

// P15.1: two numbers wrong at once, of all that are wrong alone.
func TestCheckOfTwoWrongs(t *testing.T) {
	for _, h := range few()[:4] {
		all := others(h)
		for i, a := range all {
			if mayBe(a) {
				continue
			}
			for k := range 12 {
				b := all[(i*31+k*17)%len(all)]
				if mayBe(b) {
					continue
				}
				held(t, mixed(h, a, b))
			}
		}
	}
}

// mixed is a head with what is other than its numbers in two others.
func mixed(h, a, b api.Head) api.Head {
	for _, x := range []api.Head{a, b} {
		for _, field := range []func(x *api.Head) *int{kindOf, indexOf, countOf, lpnOf, lenOf} {
			if *field(&x) != *field(&h) {
				*field(&h) = *field(&x)
			}
		}
		for _, field := range []func(x *api.Head) *uint64{batchOf, openOf} {
			if *field(&x) != *field(&h) {
				*field(&h) = *field(&x)
			}
		}
	}
	return h
}
