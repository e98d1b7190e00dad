package runes

import (
	"strconv"
	"strings"

	"wagtail/api"
)

// Escape tells a text in plain runes alone: what is not plain, and \, by numbers.
func Escape(s string) string {
	var escaped strings.Builder
	for at, r := range s {
		switch {
		case stray(s, at, r):
			escaped.WriteString(`\x` + hex(uint64(s[at])) + ".")
		case plain(r) && r != '\\':
			escaped.WriteRune(r)
		default:
			escaped.WriteString(`\` + hex(uint64(r)) + ".")
		}
	}
	return escaped.String()
}

// Back tells the text of which s is the escaped one.
func Back(s string) (string, api.Errno) {
	text, ok := unescape(s)
	// What reads well part by part may still be no text's: plain runes by numbers, needless noughts, single bytes that are a rune together.
	if !ok || Escape(text) != s {
		return "", api.ErrForm
	}
	return text, api.OK
}

// unescape tells what s stands for, part by part; whether it is just what Escape tells of that, it does not ask.
func unescape(s string) (string, bool) {
	var text strings.Builder
	for {
		asItIs, behind, more := strings.Cut(s, `\`)
		text.WriteString(asItIs)
		if !more {
			return text.String(), true
		}
		number, rest, closed := strings.Cut(behind, ".")
		one, ok := numbered(number)
		if !closed || !ok {
			return "", false
		}
		text.WriteString(one)
		s = rest
	}
}

// numbered tells the rune, or the single byte, of a number that is between \ and a point.
func numbered(number string) (string, bool) {
	if digits, ok := strings.CutPrefix(number, "x"); ok {
		n, err := strconv.ParseUint(digits, 16, 8)
		return string([]byte{byte(n)}), err == nil
	}
	// A number of 31 bits has room in a rune; one that is no rune's becomes U+FFFD, whose number is another one.
	n, err := strconv.ParseUint(number, 16, 31)
	return string(rune(n)), err == nil
}

// hex tells a number's digits from 0 to f, at least two.
func hex(n uint64) string {
	digits := strconv.FormatUint(n, 16)
	if len(digits) < 2 {
		return "0" + digits
	}
	return digits
}
