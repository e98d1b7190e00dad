package runes

import (
	"slices"
	"unicode/utf8"
)

// Runes at which a piece of a text ends.
const (
	tab     = 9
	lineEnd = 10
	blank   = 32
)

// Words tells what is between blanks, in order; where nothing is between them, there is no word.
func Words(s string) []string {
	var words []string
	pieces(s, oneOf(blank, tab), func(word string) {
		if word != "" {
			words = append(words, word)
		}
	})
	return words
}

// Lines tells what is between line ends, in order, be it nothing; behind the last one there is no line, if the text ends so.
func Lines(s string) []string {
	var lines []string
	pieces(s, oneOf(lineEnd), func(line string) {
		lines = append(lines, line)
	})
	// There is a last piece always: of an empty text, too.
	if last := len(lines) - 1; lines[last] == "" {
		return lines[:last]
	}
	return lines
}

// pieces hands on the pieces of a text in order, empty ones, too; a piece ends at each rune of which ends tells so, and at the text's end.
func pieces(s string, ends func(r rune) bool, take func(piece string)) {
	from := 0
	for at, r := range s {
		if ends(r) {
			take(s[from:at])
			from = at + utf8.RuneLen(r)
		}
	}
	take(s[from:])
}

// oneOf makes the function that tells whether a piece ends at a rune: at each of these.
func oneOf(these ...rune) func(r rune) bool {
	return func(r rune) bool {
		return slices.Contains(these, r)
	}
}
