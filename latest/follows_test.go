package latest_test

import (
	"slices"
	"testing"

	"wagtail/api"
	"wagtail/latest"
	"wagtail/nand"
	"wagtail/page"
	"wagtail/scan"
)

// set are versions that a history left, of four logical pages: its finds, what is void, and its versions.
func set() ([]api.Found, []uint64, []api.Copies) {
	l := []api.Found{put(0, 4, 2, 3, 0), put(0, 4, 1, 2, 0), put(1, 6, 2, 3, 1), put(-1, 0, 1, 2, 1), put(2, 2, 5, 4, 0)}
	v := []api.Copies{has(-1, 3, at(2, 1)), has(0, 3, at(3, 0), at(2, 0)), has(1, 3, at(3, 1)), has(2, 3, at(4, 0))}
	return l, []uint64{5, 3, 7}, v
}

// P19.4: a find of a batch that counts for nothing changes no version, wherever it stands: of a void batch, or of the highest one, that is broken.
func TestFindsThatCountForNothing(t *testing.T) {
	l, void, v := set()
	for _, lpn := range []int{-2, -1, 0, 1, 2, 3} {
		for _, open := range longs() {
			var others []api.Found
			for _, batch := range []uint64{3, 5, 7} {
				others = append(others, put(lpn, batch, open, 0, 0), torn(put(lpn, batch, open, 9, 9)))
			}
			others = append(others, torn(put(lpn, 8, open, 0, 0)))
			for _, f := range others {
				for i := range len(l) + 1 {
					holdsVersions(t, slices.Insert(slices.Clone(l), i, f), void, v...)
					holdsVersions(t, slices.Insert(slices.Clone(l), i, f, f), void, v...)
				}
			}
		}
	}
}

// P19.4: nor do several of them, among one another: without them the versions are the same.
func TestManyFindsThatCountForNothing(t *testing.T) {
	for seed := range 3000 {
		x := dice(seed)
		l, void := x.finds(x.below(14)), x.batches(x.below(4))
		left := slices.DeleteFunc(slices.Clone(l), func(f api.Found) bool { return nothing(l, void, f.H.Batch) })
		// What is left behind a broken batch could be broken by itself, so it is asked with an end of its highest one.
		if batch, there := highest(left); there {
			end := put(100, batch, 1, 1, 1)
			want := slices.DeleteFunc(latest.Versions(append(left, end), void), func(c api.Copies) bool { return c.Lpn == 100 })
			holdsVersions(t, l, void, want...)
		} else {
			holdsVersions(t, l, void)
		}
	}
}

// P19.4: finds of a version that a greater one is there of change nothing, wherever they stand, whatever their Opens, and Kinds, are.
func TestFindsOfLesserVersions(t *testing.T) {
	l, void, v := set()
	for _, f := range []api.Found{put(0, 0, 9, 0, 0), put(0, 1, 0, 9, 9), put(0, 2, 9, 3, 0), torn(put(0, 2, 9, 3, 0)), put(1, 4, 9, 0, 0), put(1, 0, 9, 0, 0), put(2, 1, 9, 4, 0), torn(put(2, 0, 0, 4, 0))} {
		for _, k := range []int{api.KData, api.KMeta, -1} {
			for i := range len(l) + 1 {
				holdsVersions(t, slices.Insert(slices.Clone(l), i, kind(f, k)), void, v...)
				holdsVersions(t, slices.Insert(slices.Clone(l), i, kind(f, k), f), void, v...)
			}
		}
	}
}

// P19.4: without the finds that are no version's the versions are the same, and of the finds of a version none can go.
func TestFindsOfVersionsAlone(t *testing.T) {
	for seed := range 2000 {
		x := dice(seed)
		l, void := x.finds(x.below(14)), x.batches(x.below(3))
		for i := range l {
			l[i].At = at(i, i)
		}
		whole := latest.Versions(l, void)
		for i, f := range l {
			less := latest.Versions(slices.Delete(slices.Clone(l), i, i+1), void)
			current := slices.Contains(version(l, void, f.H.Lpn), f)
			if current && alike(less, whole) {
				t.Fatalf("Versions(%v, %d): %v, without %v, too", l, void, whole, f)
			}
			// Where a batch's last page goes, it could be broken: so just finds of others are taken out.
			if batch, _ := highest(l); !current && f.H.Batch != batch && !alike(less, whole) {
				t.Fatalf("Versions(%v, %d): %v, but without %v: %v", l, void, whole, f, less)
			}
		}
	}
}

// P19.1 to P19.4: each row of up to four finds, of three batches and two logical pages, with an end of its batch or not, each choice of void batches.
func TestEachRow(t *testing.T) {
	for many, rows := range []int{1, 12, 144, 1728, 20736} {
		for n := range rows {
			var l []api.Found
			for rest := n; len(l) < many; rest /= 12 {
				f := put(rest/3%2, uint64(rest%3), uint64(rest%2), 5-len(l)%2, len(l))
				if rest/6%2 == 1 {
					f = torn(f)
				}
				l = append(l, f)
			}
			for marks := range 8 {
				var void []uint64
				for batch := range uint64(3) {
					if marks>>batch&1 == 1 {
						void = append(void, 2-batch)
					}
				}
				holds(t, l, void)
			}
		}
	}
}

// P19.1 to P19.4: many rows of finds, of numbers that are often the same, and of numbers at the ends of their types.
func TestManyRows(t *testing.T) {
	for seed := range 4000 {
		x := dice(seed)
		holds(t, x.finds(x.below(20)), x.batches(x.below(5)))
		void := []uint64{longs()[x.below(len(longs()))], longs()[x.below(len(longs()))]}
		far := x.far(1 + x.below(12))
		holds(t, far, void[:x.below(3)])
		for i := range far {
			far[i].H.Lpn, far[i].H.Batch = far[0].H.Lpn, far[i%2].H.Batch
		}
		holds(t, far, nil)
	}
}

// R1: lists of a great many finds, and of as many void batches, are told, too.
func TestAGreatMany(t *testing.T) {
	const many = 1 << 17
	var l []api.Found
	var void []uint64
	for i := range many {
		l = append(l, put(i/2, uint64(many-i), 1, 2, i))
		void = append(void, uint64(i)*2)
	}
	told := latest.Versions(l, void)
	if len(told) != many/2 || len(latest.Void(l, void)) != many/2 {
		t.Fatalf("%d versions, %d void", len(told), len(latest.Void(l, void)))
	}
	for i, c := range told {
		// Of a logical page's two batches the greater one is even, so it is void.
		if c.Lpn != i || !slices.Equal(c.At, []api.Place{at(2, 2*i+1)}) {
			t.Fatalf("%v at %d", c, i)
		}
	}
}

// P19.3: on a device a batch is cut at each of its pages: behind it the versions are those of the batches ahead of it, or, if the last page is right, its own.
func TestVersionsOfADevice(t *testing.T) {
	for cut := range 5 {
		var faults []api.Fault
		if cut < 4 {
			faults = []api.Fault{{At: 4 + cut, Kind: api.FCut, Mask: []byte{15}}}
		}
		d, e := nand.New(api.Geom{Blocks: 8, Pages: 4}, nil, faults)
		if e != api.OK {
			t.Fatalf("error %d", e)
		}
		for i := range 8 {
			b, e := page.Put(api.Head{Kind: api.KData, Index: i % 4, Count: 4, Batch: 1 + uint64(i/4), Open: 1 + uint64(i/4), Lpn: i % 4}, "")
			if e != api.OK {
				t.Fatalf("error %d", e)
			}
			d.Program(at(7-i/4, i%4), b)
		}
		d.Power()
		l, e := scan.All(d)
		if e != api.OK {
			t.Fatalf("error %d", e)
		}
		block := 7
		if cut == 4 {
			block = 6
		}
		var want []api.Copies
		for lpn := range 4 {
			want = append(want, has(lpn, api.KData, at(block, lpn)))
		}
		holdsVersions(t, l, nil, want...)
		holds(t, l, nil)
	}
}
