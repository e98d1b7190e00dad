package runes_test

import (
	"math"
	"strings"
	"testing"
	"unicode/utf8"

	"wagtail/runes"
)

// glyph is what stands at a place of a text: a rune, or a byte that is no part of a right one.
type glyph struct {
	bytes string
	rune  int
	stray bool
}

// wide tells how many bytes the right rune has that b begins with; 0, if it begins with none: by the table of RFC 3629, not by the library.
func wide(b string) int {
	more := func(n int, low, high byte) int {
		if len(b) <= n || b[1] < low || b[1] > high {
			return 0
		}
		for _, x := range []byte(b[2 : n+1]) {
			if x < 0x80 || x > 0xbf {
				return 0
			}
		}
		return n + 1
	}
	switch x := b[0]; {
	case x < 0x80:
		return 1
	case x >= 0xc2 && x <= 0xdf:
		return more(1, 0x80, 0xbf)
	case x == 0xe0:
		return more(2, 0xa0, 0xbf)
	case x == 0xed:
		return more(2, 0x80, 0x9f)
	case x >= 0xe1 && x <= 0xef:
		return more(2, 0x80, 0xbf)
	case x == 0xf0:
		return more(3, 0x90, 0xbf)
	case x >= 0xf1 && x <= 0xf3:
		return more(3, 0x80, 0xbf)
	case x == 0xf4:
		return more(3, 0x80, 0x8f)
	}
	return 0
}

// glyphs tells what stands in a text, in order.
func glyphs(s string) []glyph {
	var l []glyph
	for len(s) > 0 {
		n := wide(s)
		if n == 0 {
			l = append(l, glyph{s[:1], 0, true})
			s = s[1:]
			continue
		}
		r := int(s[0])
		if n > 1 {
			r &= 0xff >> (n + 1)
		}
		for _, x := range []byte(s[1:n]) {
			r = r<<6 | int(x&0x3f)
		}
		l = append(l, glyph{s[:n], r, false})
		s = s[n:]
	}
	return l
}

// edges are the numbers of runes at whose lengths, or kinds, something changes.
var edges = []rune{
	0, 1, 8, 9, 10, 11, 13, 15, 16, 31, 32, 33, 34, 46, 47, 48, 57, 64, 65, 91, 92, 93, 97, 120, 125, 126, 127, 128, 0x85, 0xa0, 0xe9, 0xff,
	0x100, 0x7ff, 0x800, 0xfff, 0x1000, 0x2028, 0xd7ff, 0xe000, 0xfeff, 0xfffc, 0xfffd, 0xfffe, 0xffff, 0x10000, 0x1f600, 0xfffff, 0x100000, 0x10ffff,
}

// strays are texts that have bytes that are no part of a right rune, and none that is.
var strays = []string{
	"\x80", "\xbf", "\xc0", "\xc1", "\xc2", "\xdf", "\xe0", "\xe1", "\xed", "\xef", "\xf0", "\xf3", "\xf4", "\xf5", "\xf8", "\xfe", "\xff",
	"\xc0\x80", "\xc1\xbf", "\xe0\x80\x80", "\xe0\x9f\xbf", "\xed\xa0\x80", "\xed\xbf\xbf", "\xf0\x80\x80\x80", "\xf0\x8f\xbf\xbf", "\xf4\x90\x80\x80", "\xf7\xbf\xbf\xbf",
	"\xe2\x82", "\xef\xbf", "\xf0\x9f\x98", "\xf0\x9f", "\x80\x80\x80\x80", "\xff\xfe", "\xef\xef\xbf", "\xf8\x88\x80\x80\x80",
}

// texts are texts of many kinds: empty, plain, with blanks and line ends, with runes of each length, and such as are no right ones.
func texts() []string {
	l := []string{
		"", "a", "abc", "wagtail", "!", "~", `\`, `\\`, `\20.`, `a\20.\5c.`, "a \\", "aéb", "😀", "\ufffd", "\ufffd\ufffd", "x\ufffdy",
		" ", "\t", "\n", "\r\n", "a b", "a\tb", " a ", "a\n", "a\n\nb", "\n\n", " \n \n", "\v\f\r", "again 3 9", "a\u00a0b", "\u2028",
		"\xef\xbf\xbd\xef\xbf", "\xff\ufffd\xff", "é\xff", "a\xffb", " \xff\n\xff ", strings.Repeat("é\xff a\n", 300), strings.Repeat("plain", 500),
	}
	for _, r := range edges {
		l = append(l, string(r), "a"+string(r)+"b")
	}
	for _, s := range strays {
		l = append(l, s, "a"+s, s+"a", "é"+s+"😀", s+"\ufffd"+s)
	}
	return l
}

// across goes through all rows of up to n parts, as texts.
func across(parts []string, n int, do func(s string)) {
	do("")
	if n == 0 {
		return
	}
	for _, p := range parts {
		across(parts, n-1, func(s string) {
			do(p + s)
		})
	}
}

// bytewise are bytes that begin, go on, or end right runes, or can't: all their rows of four are looked at.
var bytewise = []string{
	"a", "\x7f", "\x80", "\x8f", "\x90", "\x9f", "\xa0", "\xbd", "\xbf", "\xc1", "\xc2", "\xdf", "\xe0", "\xe2", "\xed", "\xef", "\xf0", "\xf1", "\xf4", "\xf5", "\xff",
}

// all goes through the texts of many kinds, and through all rows of bytes that matter.
func all(do func(s string)) {
	for _, s := range texts() {
		do(s)
	}
	across(bytewise, 4, do)
}

// P4.1: Right tells what is valid UTF-8: of many texts.
func TestRight(t *testing.T) {
	all(func(s string) {
		want := true
		for _, g := range glyphs(s) {
			want = want && !g.stray
		}
		if runes.Right(s) != want || want != utf8.ValidString(s) {
			t.Errorf("Right(%q) is not %v", s, want)
		}
	})
}

// P4.1: all single bytes, and all pairs.
func TestRightOfOneAndTwoBytes(t *testing.T) {
	for n := range 256 {
		if s := string([]byte{byte(n)}); runes.Right(s) != (n < 0x80) {
			t.Errorf("Right(%q) is %v", s, n >= 0x80)
		}
	}
	for n := range 1 << 16 {
		s := string([]byte{byte(n >> 8), byte(n)})
		if runes.Right(s) != utf8.ValidString(s) {
			t.Errorf("Right(%q) is %v", s, !utf8.ValidString(s))
		}
	}
}

// P4.1: the rune U+FFFD is right, though its number is that of what is none.
func TestRightOfTheRuneThatStandsForNone(t *testing.T) {
	for s, want := range map[string]bool{
		"\ufffd": true, "a\ufffdb": true, "\ufffd\ufffd": true,
		"\xef\xbf": false, "\xef": false, "\xef\xbf\xbd\xef": false, "\xef\xef\xbf\xbd": false, "\ufffd\xff": false, "\xff\ufffd": false, "\xbd": false,
	} {
		if runes.Right(s) != want {
			t.Errorf("Right(%q) is not %v", s, want)
		}
	}
}

// P4.1: what is not right stays so, whatever right is ahead of it, or behind.
func TestRightLooksAtAll(t *testing.T) {
	long := strings.Repeat("aé😀\ufffd", 500)
	if !runes.Right(long) {
		t.Error("a long right text is not")
	}
	for _, s := range strays {
		if runes.Right(long+s) || runes.Right(s+long) || runes.Right(long+s+long) {
			t.Errorf("with %q it is right", s)
		}
	}
}

// P4.1: each rune alone, among plain ones: plain are those from 33 to 126, no others.
func TestPlainOfEachRune(t *testing.T) {
	for r := rune(0); r <= utf8.MaxRune; r++ {
		if !utf8.ValidRune(r) {
			continue
		}
		want := r >= 33 && r <= 126
		if one := string(r); runes.Plain(one) != want || runes.Plain("a"+one) != want || runes.Plain(one+"a") != want {
			t.Fatalf("%q alone, or beside a: Plain is not %v", one, want)
		}
	}
}

// P4.1: a text without a rune is not plain; one with a single rune, or byte, that is not plain isn't either.
func TestPlain(t *testing.T) {
	if runes.Plain("") {
		t.Error("nothing is plain")
	}
	all(func(s string) {
		want := len(s) > 0
		for _, g := range glyphs(s) {
			want = want && !g.stray && g.rune >= 33 && g.rune <= 126
		}
		if runes.Plain(s) != want {
			t.Errorf("Plain(%q) is not %v", s, want)
		}
	})
	for n := 128; n < 256; n++ {
		if b := string([]byte{byte(n)}); runes.Plain(b) || runes.Plain("a"+b) || runes.Plain(b+"a") {
			t.Errorf("a text with the byte %d is plain", n)
		}
	}
}

// P4.1: Count counts runes, and each byte that is none as one.
func TestCount(t *testing.T) {
	for s, want := range map[string]int{
		"": 0, "a": 1, "abc": 3, "é": 1, "aéb": 3, "😀": 1, "\ufffd": 1, "\xff": 1, "\xff\xfe": 2, "\xe2\x82": 2, "\xe2\x82\xac": 1, "\xed\xa0\x80": 3, "\xf4\x90\x80\x80": 4, "\xc0\x80": 2, "\x00": 1, " \n": 2,
	} {
		if n := runes.Count(s); n != want {
			t.Errorf("Count(%q) = %d, not %d", s, n, want)
		}
	}
	all(func(s string) {
		if n, want := runes.Count(s), len(glyphs(s)); n != want {
			t.Errorf("Count(%q) = %d, not %d", s, n, want)
		}
	})
}

// P4.1: Cut tells the first n runes, for each n: below 1, within, at the end, and beyond.
func TestCut(t *testing.T) {
	all(func(s string) {
		l := glyphs(s)
		want := ""
		for n := range len(l) + 3 {
			if got := runes.Cut(s, n); got != want {
				t.Errorf("Cut(%q, %d) = %q, not %q", s, n, got, want)
			}
			if n < len(l) {
				want += l[n].bytes
			}
		}
		if want != s {
			t.Errorf("%q is not all of its glyphs: %q", s, want)
		}
	})
}

// P4.1: n far below 1, or far beyond the text.
func TestCutFarAway(t *testing.T) {
	for _, s := range texts() {
		for _, n := range []int{0, -1, -2, math.MinInt32, math.MinInt + 1, math.MinInt} {
			if got := runes.Cut(s, n); got != "" {
				t.Errorf("Cut(%q, %d) = %q", s, n, got)
			}
		}
		for _, n := range []int{len(s), len(s) + 1, math.MaxInt32, math.MaxInt - 1, math.MaxInt} {
			if got := runes.Cut(s, n); got != s {
				t.Errorf("Cut(%q, %d) = %q", s, n, got)
			}
		}
	}
}

// P4.1: what is cut has as many runes as were asked for, or all; what is left has the others.
func TestCutAndCount(t *testing.T) {
	for _, s := range texts() {
		count := runes.Count(s)
		for n := range count + 2 {
			head := runes.Cut(s, n)
			if got := runes.Count(head); got != min(n, count) {
				t.Errorf("Cut(%q, %d) has %d runes", s, n, got)
			}
			if rest := strings.TrimPrefix(s, head); runes.Count(rest) != count-min(n, count) {
				t.Errorf("behind Cut(%q, %d): %q", s, n, rest)
			}
		}
	}
}

// R4: what is told hangs on the text alone: asked again, in another order, with others between, it is the same.
func TestAnswersHangOnArgumentsAlone(t *testing.T) {
	type told struct {
		right, plain bool
		count        int
		cut          string
	}
	ask := func(s string) told {
		return told{runes.Right(s), runes.Plain(s), runes.Count(s), runes.Cut(s, 2)}
	}
	l := texts()
	first := map[string]told{}
	for _, s := range l {
		first[s] = ask(s)
	}
	for i := range l {
		// The same bytes, that stand elsewhere.
		s := string([]byte(l[len(l)-1-i]))
		if got := ask(s); got != first[s] {
			t.Errorf("%q: %v, then %v", s, first[s], got)
		}
	}
}
