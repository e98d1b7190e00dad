package stamp_test

import (
	"math"
	"math/big"
	"slices"
	"testing"

	"wagtail/api"
	"wagtail/stamp"
)

// greatest is the greatest number that there is.
const greatest = math.MaxUint64

// numbers are 0, the greatest one, those at each end of a width, and some within.
func numbers() []uint64 {
	return []uint64{0, 1, 2, 5, 9, 10, 23, 24, 255, 256, 65535, 65536, 1<<32 - 1, 1 << 32, 1<<63 - 1, 1 << 63, 1<<63 + 1, greatest - 1, greatest}
}

// stamps are those of all numbers, each another one.
func stamps() []api.Stamp {
	var l []api.Stamp
	for _, time := range numbers() {
		for _, seq := range numbers() {
			l = append(l, api.Stamp{Time: time, Seq: seq})
		}
	}
	return l
}

// size tells a number of any size.
func size(n uint64) *big.Int {
	return new(big.Int).SetUint64(n)
}

// rank tells a stamp as one number: its Time 2^64 times, and its Seq.
func rank(s api.Stamp) *big.Int {
	n := new(big.Int).Lsh(size(s.Time), 64)
	return n.Add(n, size(s.Seq))
}

// P8.2: which of two is ahead, each field less, the same, and greater.
func TestLess(t *testing.T) {
	for _, c := range []struct {
		a, b api.Stamp
		less bool
	}{
		{api.Stamp{}, api.Stamp{}, false}, {api.Stamp{Time: 5, Seq: 1}, api.Stamp{Time: 5, Seq: 1}, false}, {api.Stamp{Time: greatest, Seq: greatest}, api.Stamp{Time: greatest, Seq: greatest}, false},
		{api.Stamp{Time: 5, Seq: 1}, api.Stamp{Time: 5, Seq: 2}, true}, {api.Stamp{Time: 5, Seq: 2}, api.Stamp{Time: 5, Seq: 1}, false}, {api.Stamp{Time: 4, Seq: 1}, api.Stamp{Time: 5, Seq: 1}, true}, {api.Stamp{Time: 5, Seq: 1}, api.Stamp{Time: 4, Seq: 1}, false},
		{api.Stamp{Time: 4, Seq: 9}, api.Stamp{Time: 5, Seq: 1}, true}, {api.Stamp{Time: 5, Seq: 1}, api.Stamp{Time: 4, Seq: 9}, false}, {api.Stamp{Time: 4, Seq: 1}, api.Stamp{Time: 5, Seq: 9}, true}, {api.Stamp{Time: 5, Seq: 9}, api.Stamp{Time: 4, Seq: 1}, false},
		{api.Stamp{Time: 0, Seq: greatest}, api.Stamp{Time: 1, Seq: 0}, true}, {api.Stamp{Time: 1, Seq: 0}, api.Stamp{Time: 0, Seq: greatest}, false}, {api.Stamp{Time: greatest - 1, Seq: greatest}, api.Stamp{Time: greatest}, true}, {api.Stamp{Time: greatest, Seq: greatest - 1}, api.Stamp{Time: greatest, Seq: greatest}, true},
		{api.Stamp{Time: 1<<63 - 1}, api.Stamp{Time: 1 << 63}, true}, {api.Stamp{Time: 1 << 63}, api.Stamp{Time: 1<<63 - 1}, false}, {api.Stamp{Time: 7, Seq: 1<<63 - 1}, api.Stamp{Time: 7, Seq: 1 << 63}, true}, {api.Stamp{Time: 7, Seq: 1 << 63}, api.Stamp{Time: 7, Seq: 1<<63 - 1}, false}, {api.Stamp{Time: 255, Seq: 0}, api.Stamp{Time: 256, Seq: 0}, true}, {api.Stamp{Time: 9}, api.Stamp{Time: 10}, true},
		{api.Stamp{Seq: 1}, api.Stamp{Time: 1}, true}, {api.Stamp{Time: 1}, api.Stamp{Seq: 1}, false}, {api.Stamp{}, api.Stamp{Seq: 1}, true}, {api.Stamp{}, api.Stamp{Time: 1}, true}, {api.Stamp{Time: 3, Seq: 4}, api.Stamp{Time: 4, Seq: 3}, true},
	} {
		if got := stamp.Less(c.a, c.b); got != c.less {
			t.Errorf("Less(%v, %v) = %t", c.a, c.b, got)
		}
	}
}

// P8.2: of all pairs the one is ahead whose rank is less; and the last one of the pair, whichever is told first.
func TestPairs(t *testing.T) {
	for _, a := range stamps() {
		for _, b := range stamps() {
			side := rank(a).Cmp(rank(b))
			if got := stamp.Less(a, b); got != (side < 0) {
				t.Errorf("Less(%v, %v) = %t", a, b, got)
			}
			last := a
			if side < 0 {
				last = b
			}
			if got := stamp.Latest(a, b); got != last {
				t.Errorf("Latest(%v, %v) = %v", a, b, got)
			}
		}
	}
}

// P8.2: the last one of none, of one, and of the same one several times.
func TestLatestOfOne(t *testing.T) {
	if got := stamp.Latest(); got != (api.Stamp{}) {
		t.Errorf("Latest() = %v", got)
	}
	if a, b := stamp.Latest([]api.Stamp(nil)...), stamp.Latest([]api.Stamp{}...); a != (api.Stamp{}) || b != (api.Stamp{}) {
		t.Errorf("Latest of none = %v, %v", a, b)
	}
	for _, s := range stamps() {
		for n := range 5 {
			if got := stamp.Latest(slices.Repeat([]api.Stamp{s}, n+1)...); got != s {
				t.Errorf("Latest of %v, %d times = %v", s, n+1, got)
			}
		}
	}
}

// P8.2: the last one wherever it stands, and beside those that are less by one field alone.
func TestLatestAtEachPlace(t *testing.T) {
	last := api.Stamp{Time: 7, Seq: 7}
	others := []api.Stamp{{Time: 7, Seq: 6}, {Time: 6, Seq: 7}, {Time: 6, Seq: 8}, {Time: 6, Seq: greatest}, {}, {Seq: greatest}, {Time: 7}, {Time: 7, Seq: 6}}
	for at := range len(others) + 1 {
		l := slices.Insert(slices.Clone(others), at, last)
		if got := stamp.Latest(l...); got != last {
			t.Errorf("Latest(%v) = %v", l, got)
		}
		twice := append(l, last)
		if got := stamp.Latest(twice...); got != last {
			t.Errorf("Latest(%v) = %v", twice, got)
		}
	}
	if got := stamp.Latest(others...); got != (api.Stamp{Time: 7, Seq: 6}) {
		t.Errorf("Latest(%v) = %v", others, got)
	}
}

// P8.2: the last one of all lists of three stamps of little numbers, and of long ones, turned so that each is first once.
func TestLatestOfLists(t *testing.T) {
	is := func(l []api.Stamp) {
		t.Helper()
		last := slices.MaxFunc(l, func(a, b api.Stamp) int { return rank(a).Cmp(rank(b)) })
		if got := stamp.Latest(l...); got != last {
			t.Errorf("Latest(%v) = %v, not %v", l, got, last)
		}
	}
	var little []api.Stamp
	for n := range uint64(9) {
		little = append(little, api.Stamp{Time: n / 3, Seq: n % 3})
	}
	for _, a := range little {
		for _, b := range little {
			for _, c := range little {
				is([]api.Stamp{a, b, c})
			}
		}
	}
	all := stamps()
	for at := range all {
		turned := append(slices.Clone(all[at:]), all[:at]...)
		is(turned)
		slices.Reverse(turned)
		is(turned)
		is(all[:at+1])
		is(all[at:])
	}
}

// P8.3: Time and life, and the greatest number, if that would be more; each side of that edge.
func TestEnd(t *testing.T) {
	for _, c := range []struct{ time, life, end uint64 }{
		{5, 3, 8}, {3, 5, 8}, {0, 0, 0}, {0, 7, 7}, {7, 0, 7}, {255, 1, 256}, {1<<32 - 1, 1, 1 << 32}, {1<<63 - 1, 1, 1 << 63}, {1<<63 - 1, 1<<63 - 1, greatest - 1}, {1 << 63, 1<<63 - 1, greatest}, {1 << 63, 1 << 63, greatest}, {1 << 63, 1<<63 - 2, greatest - 1},
		{greatest, 0, greatest}, {0, greatest, greatest}, {greatest, 1, greatest}, {1, greatest, greatest}, {greatest - 1, 1, greatest}, {1, greatest - 1, greatest}, {greatest - 1, 0, greatest - 1}, {0, greatest - 1, greatest - 1}, {greatest - 1, 2, greatest}, {2, greatest - 1, greatest}, {2, greatest - 2, greatest}, {2, greatest - 3, greatest - 1}, {greatest - 5, 4, greatest - 1}, {greatest - 5, 5, greatest}, {greatest - 5, 6, greatest}, {greatest, greatest, greatest}, {greatest, 1 << 63, greatest},
	} {
		for _, seq := range []uint64{0, 1, 9, greatest} {
			if got := stamp.End(api.Stamp{Time: c.time, Seq: seq}, c.life); got != c.end {
				t.Errorf("End(%d %d, %d) = %d, not %d", c.time, seq, c.life, got, c.end)
			}
		}
	}
}

// P8.3: the end of all Times and lives, as sums of any size tell it; and what is over just at it, ahead of it, and behind it.
func TestEnds(t *testing.T) {
	for _, s := range stamps() {
		for _, life := range append(numbers(), greatest-s.Time, s.Time, greatest-s.Time-1, greatest-s.Time+1) {
			sum := new(big.Int).Add(size(s.Time), size(life))
			end := uint64(greatest)
			if sum.IsUint64() {
				end = sum.Uint64()
			}
			if got := stamp.End(s, life); got != end {
				t.Errorf("End(%v, %d) = %d, not %d", s, life, got, end)
			}
			for _, now := range append(numbers(), end, end-1, end+1, s.Time, life) {
				if got := stamp.Over(s, life, now); got != (size(end).Cmp(size(now)) <= 0) {
					t.Errorf("Over(%v, %d, %d) = %t", s, life, now, got)
				}
			}
		}
	}
}

// P8.3: it is over at its end, not ahead of it; where the sum would be more, at the greatest number alone.
func TestOver(t *testing.T) {
	for _, c := range []struct {
		time, life, now uint64
		over            bool
	}{
		{5, 3, 8, true}, {5, 3, 7, false}, {5, 3, 9, true}, {5, 3, 0, false}, {5, 3, 5, false}, {5, 3, greatest, true}, {0, 0, 0, true}, {0, 0, 1, true}, {0, 1, 0, false}, {0, 1, 1, true}, {1, 0, 0, false}, {1, 0, 1, true},
		{1 << 63, 1 << 63, greatest, true}, {1 << 63, 1 << 63, greatest - 1, false}, {1 << 63, 1 << 63, 0, false}, {1 << 63, 1 << 63, 1, false}, {greatest, greatest, greatest, true}, {greatest, greatest, greatest - 1, false}, {greatest, greatest, 0, false}, {greatest, 1, 0, false}, {greatest, 6, 5, false}, {6, greatest, 5, false}, {6, greatest, 6, false}, {greatest - 1, 1, greatest, true}, {greatest - 1, 1, greatest - 1, false}, {greatest - 1, 0, greatest - 1, true}, {greatest - 1, 0, greatest - 2, false}, {0, greatest, greatest, true}, {0, greatest, greatest - 1, false}, {1<<63 - 1, 1, 1<<63 - 1, false}, {1<<63 - 1, 1, 1 << 63, true},
	} {
		for _, seq := range []uint64{0, 1, 9, greatest} {
			if got := stamp.Over(api.Stamp{Time: c.time, Seq: seq}, c.life, c.now); got != c.over {
				t.Errorf("Over(%d %d, %d, %d) = %t", c.time, seq, c.life, c.now, got)
			}
		}
	}
}

// R3: the list that is handed in is not changed, its spare room neither, and that room counts for nothing; and it is not kept.
func TestStampsHandedInAreNotChanged(t *testing.T) {
	rising := stamps()
	for n := range rising {
		roomy := slices.Clone(rising)
		l := roomy[:n+1]
		if got := stamp.Latest(l...); got != rising[n] {
			t.Errorf("Latest up to %v = %v", rising[n], got)
		}
		if got := stamp.Latest(l[:0]...); got != (api.Stamp{}) {
			t.Errorf("Latest of none = %v", got)
		}
		if !slices.Equal(roomy, rising) {
			t.Errorf("the stamps up to %v were changed", rising[n])
		}
		clear(l)
		l[n/2].Seq = 1
		if got := stamp.Latest(l...); got != (api.Stamp{Seq: 1}) {
			t.Errorf("Latest of a list that became another one = %v", got)
		}
	}
}

// R4: what is answered hangs on what is handed in, not on what was asked before.
func TestAnswersHangOnArgumentsAlone(t *testing.T) {
	all := stamps()
	asked := func(i int) []any {
		s, next := all[i], all[(i*7+1)%len(all)]
		of, e := stamp.Of([]any{s.Seq, next.Time})
		wrong, f := stamp.Of([]any{s.Seq, next.Time, s.Time})
		return []any{stamp.Less(s, next), stamp.Latest(next, s), stamp.Latest(), stamp.End(s, next.Seq), stamp.Over(s, next.Seq, next.Time), stamp.Key(api.Eid{Scheme: 1, Name: "//a"}, s), of, e, wrong, f}
	}
	first := make([][]any, 0, len(all))
	for i := range all {
		first = append(first, asked(i))
	}
	for i := range slices.Backward(all) {
		if got := asked(i); !slices.Equal(got, first[i]) {
			t.Errorf("%v: %v, and then %v", all[i], first[i], got)
		}
	}
}
