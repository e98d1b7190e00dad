package geom_test

import (
	"math"
	"slices"

	"wagtail/api"
)

// ints are numbers at the edges of the sides, of bytes and words, and of int itself.
func ints() []int {
	l := []int{math.MinInt, math.MinInt + 1, math.MinInt + 8, math.MinInt / 2, -1<<32 - 1, -1 << 32, -1<<32 + 8, -1 << 31, -256, -248, -34, -9, -8, -4, -2, -1}
	for n := range 11 {
		l = append(l, n)
	}
	return append(l, 16, 31, 32, 33, 34, 35, 36, 40, 255, 256, 256+4, 256+8, 1<<16+8, 1<<31-1, 1<<31, 1<<31+8, 1<<32-1, 1<<32, 1<<32+4, 1<<32+8, 1<<61, 1<<62, 1<<62+1, math.MaxInt/8, math.MaxInt/4, math.MaxInt-8, math.MaxInt-1, math.MaxInt)
}

// dev are a device's sides.
func dev(blocks, pages, reserve int) api.Geom {
	return api.Geom{Blocks: blocks, Pages: pages, Reserve: reserve}
}

// at is a page of a block.
func at(block, page int) api.Place {
	return api.Place{Block: block, Page: page}
}

// mayBe tells whether sides may be, as the chapter's Words say.
func mayBe(g api.Geom) bool {
	return 8 <= g.Blocks && g.Blocks <= 34 && 4 <= g.Pages && g.Pages <= 32 && 0 <= g.Reserve && g.Reserve <= 8
}

// sides are all that may be.
func sides() []api.Geom {
	var l []api.Geom
	for blocks := 8; blocks <= 34; blocks++ {
		for pages := 4; pages <= 32; pages++ {
			for reserve := range 9 {
				l = append(l, dev(blocks, pages, reserve))
			}
		}
	}
	return l
}

// few are some of the sides that may be: the least ones, the greatest ones, and others.
func few() []api.Geom {
	return []api.Geom{dev(8, 4, 0), dev(8, 4, 8), dev(8, 32, 0), dev(8, 17, 3), dev(34, 4, 0), dev(34, 32, 0), dev(34, 32, 8), dev(16, 8, 2), dev(10, 8, 1), dev(12, 4, 0), dev(33, 31, 7), dev(9, 5, 1)}
}

// wrongs are sides that may not be: each one alone, and several at once.
func wrongs() []api.Geom {
	var l []api.Geom
	for _, g := range few() {
		for _, n := range ints() {
			for _, x := range []api.Geom{dev(n, g.Pages, g.Reserve), dev(g.Blocks, n, g.Reserve), dev(g.Blocks, g.Pages, n), dev(n, n, g.Reserve), dev(n, g.Pages, n), dev(g.Blocks, n, n), dev(n, n, n)} {
				if !mayBe(x) {
					l = append(l, x)
				}
			}
		}
	}
	return l
}

// count is a count of a device's data blocks, each one asked for: those that are on a list, or those that are not.
func count(g api.Geom, bad []int, listed bool) int {
	n := 0
	for b := 2; mayBe(g) && b < g.Blocks; b++ {
		if slices.Contains(bad, b) == listed {
			n++
		}
	}
	return n
}

// upTo are the data blocks of a device from the last one on, so many.
func upTo(g api.Geom, n int) []int {
	var l []int
	for i := range n {
		l = append(l, g.Blocks-1-i)
	}
	return l
}

// lists are lists of numbers for a device: of blocks that are data blocks, or not, of no blocks at all, once and more, in any order.
func lists(g api.Geom) [][]int {
	all := upTo(g, g.Blocks-2)
	around := []int{g.Blocks + 1, g.Blocks, g.Blocks - 1, 2, 1, 0, -1, -2, -g.Blocks}
	l := [][]int{nil, {}, {0}, {1}, {0, 1}, {1, 0, 1, 0}, {2}, {g.Blocks - 1}, {g.Blocks}, {-1}, {-2}, {g.Blocks + 2}, {34}, {35}, {2, 3}, {3, 2}, {2, 2}, {3, 2, 3}, {2, 3, 2, 3, 2}, slices.Repeat([]int{7}, 40)}
	l = append(l, around, ints(), all, all[1:], all[:len(all)-1])
	back := slices.Clone(all)
	slices.Reverse(back)
	for _, n := range ints() {
		l = append(l, []int{n}, []int{n, n}, []int{n, 5, n}, slices.Concat(all[2:], []int{n}, all[:3]))
	}
	return append(l, back, slices.Concat(all, back), slices.Concat(around, back, ints(), all), slices.Repeat(all[3:], 50), slices.Repeat(around, 300))
}
