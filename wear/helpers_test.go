package wear_test

import (
	"fmt"
	"math"
	"math/big"
	"slices"
	"testing"

	"wagtail/wear"
)

// ends are numbers at the edges of bytes and words, of what is counted, and of int itself, rising.
func ends() []int {
	return []int{math.MinInt, math.MinInt + 1, -1 << 62, -1 << 32, -1 << 31, -65536, -65535, -1024, -65, -64, -2, -1, 0, 1, 2, 63, 64, 65, 255, 256, 1022, 1023, 1024, 1025, 65533, 65534, 65535, 65536, 65537, 1<<31 - 1, 1 << 31, 1 << 32, 1 << 62, math.MaxInt - 1, math.MaxInt}
}

// count is a block's count, as the chapter says.
func count(counts []int, block int) int {
	for place, n := range counts {
		if place == block && n > 0 {
			return n
		}
	}
	return 0
}

// added are counts with one more of a block, as the chapter says.
func added(counts []int, block int) []int {
	var l []int
	for place := range counts {
		l = append(l, count(counts, place))
	}
	if block < 0 || block > 1023 {
		return l
	}
	for len(l) < block+1 {
		l = append(l, 0)
	}
	if l[block] < 65535 {
		l[block]++
	}
	return l
}

// least is the block with the least count, and whether there is one, as the chapter says.
func least(blocks, counts []int) (int, bool) {
	for _, block := range slices.Sorted(slices.Values(blocks)) {
		if !slices.ContainsFunc(blocks, func(other int) bool { return count(counts, other) < count(counts, block) }) {
			return block, true
		}
	}
	return 0, false
}

// most is the block with the greatest count, and whether there is one, as the chapter says.
func most(blocks, counts []int) (int, bool) {
	for _, block := range slices.Sorted(slices.Values(blocks)) {
		if !slices.ContainsFunc(blocks, func(other int) bool { return count(counts, other) > count(counts, block) }) {
			return block, true
		}
	}
	return 0, false
}

// gap is how far the counts of some blocks are apart, as the chapter says.
func gap(blocks, counts []int) int {
	far := 0
	for _, a := range blocks {
		for _, b := range blocks {
			far = max(far, count(counts, a)-count(counts, b))
		}
	}
	return far
}

// may tells whether a block may be erased, as the chapter says: with a sum that is never too great.
func may(blocks, counts []int, block, gap int) bool {
	if gap < 1 {
		gap = 1
	}
	low, _ := least(blocks, counts)
	sum := new(big.Int).Add(big.NewInt(int64(count(counts, low))), big.NewInt(int64(gap)))
	return slices.Contains(blocks, block) && big.NewInt(int64(count(counts, block))).Cmp(sum) < 0
}

// modulo is a number modulo many, from 0 on, as the chapter says.
func modulo(n, many int) int {
	return int(new(big.Int).Mod(big.NewInt(int64(n)), big.NewInt(int64(many))).Int64())
}

// played are the counts behind what is played, as the chapter says: all is looked at anew for each block that is asked.
func played(many, gap int, asked []int) []int {
	if many < 1 || many > 64 {
		return nil
	}
	blocks, counts := parts(many), make([]int, many)
	for _, n := range asked {
		block := modulo(n, many)
		if !may(blocks, counts, block, gap) {
			block, _ = least(blocks, counts)
		}
		counts = added(counts, block)
	}
	return counts
}

// parts are the numbers from 0 on, below many, the greatest one first.
func parts(many int) []int {
	var l []int
	for n := many - 1; n >= 0; n-- {
		l = append(l, n)
	}
	return l
}

// sum is the sum of some counts.
func sum(counts []int) int {
	all := 0
	for _, n := range counts {
		all += n
	}
	return all
}

// filled are counts of many blocks, all of them n.
func filled(many, n int) []int {
	return slices.Repeat([]int{n}, many)
}

// rows are all rows of at most many of some numbers.
func rows(numbers []int, many int) [][]int {
	all := [][]int{nil}
	for first := 0; many > 0; many-- {
		last := len(all)
		for _, l := range all[first:last] {
			for _, n := range numbers {
				all = append(all, append(slices.Clone(l), n))
			}
		}
		first = last
	}
	return all
}

// orders are all rows in which some numbers can stand.
func orders(l []int) [][]int {
	if len(l) == 0 {
		return [][]int{nil}
	}
	var all [][]int
	for _, rest := range orders(l[1:]) {
		for i := range len(rest) + 1 {
			all = append(all, slices.Insert(slices.Clone(rest), i, l[0]))
		}
	}
	return all
}

// brief tells the first ones of some numbers, and how many there are: some tests have a great many.
func brief(l []int) string {
	return fmt.Sprintf("%d of %d", l[:min(len(l), 80)], len(l))
}

// holdsLeast holds that of some blocks this one is worn least.
func holdsLeast(t *testing.T, blocks, counts []int, want int, is bool) {
	t.Helper()
	if got, there := wear.Least(blocks, counts); got != want || there != is {
		t.Fatalf("Least(%s, %s) = %d, %t, not %d, %t", brief(blocks), brief(counts), got, there, want, is)
	}
}

// holdsMost holds that of some blocks this one is worn most.
func holdsMost(t *testing.T, blocks, counts []int, want int, is bool) {
	t.Helper()
	if got, there := wear.Most(blocks, counts); got != want || there != is {
		t.Fatalf("Most(%s, %s) = %d, %t, not %d, %t", brief(blocks), brief(counts), got, there, want, is)
	}
}

// holdsGap holds that the counts of some blocks are so far apart.
func holdsGap(t *testing.T, blocks, counts []int, want int) {
	t.Helper()
	if got := wear.Gap(blocks, counts); got != want {
		t.Fatalf("Gap(%s, %s) = %d, not %d", brief(blocks), brief(counts), got, want)
	}
}

// holdsAdd holds that counts, with one more of a block, are these.
func holdsAdd(t *testing.T, counts []int, block int, want ...int) {
	t.Helper()
	if got := wear.Add(counts, block); !slices.Equal(got, want) {
		t.Fatalf("Add(%s, %d) = %s, not %s", brief(counts), block, brief(got), brief(want))
	}
}

// holdsMay holds whether a block may be erased.
func holdsMay(t *testing.T, blocks, counts []int, block, gap int, want bool) {
	t.Helper()
	if got := wear.May(blocks, counts, block, gap); got != want {
		t.Fatalf("May(%d, %d, %d, %d) = %t, not %t", blocks, counts, block, gap, got, want)
	}
}

// holdsPlay holds that behind what is played the counts are these.
func holdsPlay(t *testing.T, many, gap int, asked []int, want ...int) {
	t.Helper()
	if got := wear.Play(many, gap, asked); !slices.Equal(got, want) {
		t.Fatalf("Play(%d, %d, %s) = %s, not %s", many, gap, brief(asked), brief(got), brief(want))
	}
}

// holds holds what is told of blocks and their counts against what the chapter says of it.
func holds(t *testing.T, blocks, counts []int) {
	t.Helper()
	low, is := least(blocks, counts)
	holdsLeast(t, blocks, counts, low, is)
	high, is := most(blocks, counts)
	holdsMost(t, blocks, counts, high, is)
	holdsGap(t, blocks, counts, gap(blocks, counts))
}

// dice are numbers from a rule, others of each seed.
type dice uint32

// below is the next number, from 0 on, below n.
func (x *dice) below(n int) int {
	*x = *x*1664525 + 1013904223
	return int(*x>>8) % n
}

// end is one of ends.
func (x *dice) end() int {
	return ends()[x.below(len(ends()))]
}

// some are numbers from -1 on, below n - 1.
func (x *dice) some(many, n int) []int {
	var l []int
	for range many {
		l = append(l, x.below(n)-1)
	}
	return l
}

// far are numbers at the ends of their types.
func (x *dice) far(many int) []int {
	var l []int
	for range many {
		l = append(l, x.end())
	}
	return l
}
