package victim_test

import (
	"math"
	"testing"

	"wagtail/api"
)

// P22.1 (Gain): of a block that is not among the places all pages are gained.
func TestGainOfABlockThatKeepsNone(t *testing.T) {
	for _, l := range [][]api.Place{nil, {}, {at(3, 4)}, {at(3, 4), at(5, 4), at(-4, 0), at(3, 0)}} {
		for _, block := range []int{4, 0, -3, math.MinInt, math.MaxInt} {
			for _, pages := range ends() {
				holdsGain(t, l, block, pages, max(pages, 0))
			}
		}
	}
}

// P22.1 (Gain): pages less what a block keeps: one that keeps one less than pages, just as many, one more, many more.
func TestGainIsPagesLessWhatIsKept(t *testing.T) {
	for _, block := range ends() {
		for many := range 6 {
			l := append(times(block, many), at(7, 0), at(5, block))
			for pages := -2; pages < many; pages++ {
				holdsGain(t, l, block, pages, 0)
			}
			holdsGain(t, l, block, many, 0)
			holdsGain(t, l, block, many+1, 1)
			holdsGain(t, l, block, many+2, 2)
			holdsGain(t, l, block, 32, 32-many)
		}
	}
}

// P22.1 (Gain): pages at the ends of their type: it is at least 0, and leaves no type's range.
func TestGainOfPagesAtTheEnds(t *testing.T) {
	for _, pages := range ends() {
		for many := range 5 {
			l := times(6, many)
			if pages <= many {
				holdsGain(t, l, 6, pages, 0)
			} else {
				holdsGain(t, l, 6, pages, pages-many)
			}
		}
	}
	holdsGain(t, in(6), 6, math.MinInt, 0)
	holdsGain(t, in(6, 6), 6, math.MinInt+1, 0)
	holdsGain(t, in(6), 6, math.MaxInt, math.MaxInt-1)
}
