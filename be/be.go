// Package be is layer 1, numbers as bytes, the highest first: see shared/doc/01-be.md.
package be

import "bytes"

// widest is how many bytes the widest number has.
const widest = 8

// Put lays a number: a copy of b, and behind it the lowest w bytes of n.
func Put(b []byte, w int, n uint64) []byte {
	return onto(bytes.Clone(b))(clamp(w), n)
}

// Get reads a number, w bytes wide, whose bytes stand from at on; bytes that are not there count as 0.
func Get(b []byte, at, w int) uint64 {
	// Such a place has no byte of b, and at+i could leave an int's range.
	if at <= -widest || at >= len(b) {
		return 0
	}
	n := uint64(0)
	for i := range clamp(w) {
		n <<= 8
		if k := at + i; k >= 0 && k < len(b) {
			n |= uint64(b[k])
		}
	}
	return n
}

// Row lays numbers, each behind its width; one number alone at the end counts for nothing.
func Row(pairs ...uint64) []byte {
	row := []byte{}
	lay := onto(row)
	for i := 1; i < len(pairs); i += 2 {
		// Held to the widest ahead of the conversion: as an int a great width could be below 0.
		row = lay(int(min(pairs[i-1], widest)), pairs[i])
	}
	return row
}

// onto makes the function that lays numbers behind a row, which is its own from then on, and tells the row.
func onto(row []byte) func(w int, n uint64) []byte {
	return func(w int, n uint64) []byte {
		for i := w - 1; i >= 0; i-- {
			row = append(row, byte(n>>(8*i)))
		}
		return row
	}
}

// clamp tells the width that counts: none below 1, the widest above it.
func clamp(w int) int {
	return min(max(w, 0), widest)
}
