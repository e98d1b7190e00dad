package runes

import "strconv"

// farthest is how far from 0 a number may be that Number reads.
const farthest = 1 << 40

// Digits tells a number's decimal digits, a minus ahead, if it is below 0.
func Digits(n int) string {
	return strconv.Itoa(n)
}

// Number reads a number from -2^40 to 2^40, written just as Digits tells it.
func Number(s string) (int, bool) {
	n, err := strconv.Atoi(s)
	if err != nil || n < -farthest || n > farthest || Digits(n) != s {
		return 0, false
	}
	return n, true
}
