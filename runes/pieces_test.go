package runes_test

import (
	"slices"
	"strings"
	"testing"

	"wagtail/runes"
)

// cuts are texts' parts, of which blanks, line ends, and what looks like them are some.
var cuts = []string{" ", "\t", "\n", "a", "é", "\xff", "\r"}

// wordsOf tells a text's words, byte by byte.
func wordsOf(s string) []string {
	var l []string
	within := false
	for i := range len(s) {
		switch {
		case s[i] == ' ' || s[i] == '\t':
			within = false
			continue
		case !within:
			l = append(l, "")
			within = true
		}
		l[len(l)-1] += s[i : i+1]
	}
	return l
}

// linesOf tells a text's lines, byte by byte.
func linesOf(s string) []string {
	var l []string
	within := false
	for i := range len(s) {
		if !within {
			l = append(l, "")
		}
		within = s[i] != '\n'
		if within {
			l[len(l)-1] += s[i : i+1]
		}
	}
	return l
}

// P4.2: words of texts that are written out.
func TestWordsWrittenOut(t *testing.T) {
	for s, want := range map[string][]string{
		"": {}, " ": {}, "\t": {}, " \t \t": {},
		"a": {"a"}, " a": {"a"}, "a ": {"a"}, "\ta\t": {"a"},
		"a b": {"a", "b"}, "a\tb": {"a", "b"}, "a  b": {"a", "b"}, "a \t b": {"a", "b"}, "  again  3\t9 ": {"again", "3", "9"},
		"b a b": {"b", "a", "b"}, "a\nb c": {"a\nb", "c"}, "\n": {"\n"}, " \n ": {"\n"}, "a\r b": {"a\r", "b"},
		"é 😀": {"é", "😀"}, "\xff \xff": {"\xff", "\xff"}, "\ufffd \ufffd": {"\ufffd", "\ufffd"}, "\xe2 \x82\xac": {"\xe2", "\x82\xac"},
	} {
		if got := runes.Words(s); !slices.Equal(got, want) {
			t.Errorf("Words(%q) = %q, not %q", s, got, want)
		}
	}
}

// isCutAt tells what is wrong with the pieces of a and b, with each rune at an edge, and each single byte, between: they are to be two just at ends.
func isCutAt(t *testing.T, what string, call func(string) []string, ends string) {
	t.Helper()
	between := []string{}
	for _, r := range edges {
		between = append(between, string(r))
	}
	for n := range 256 {
		between = append(between, string([]byte{byte(n)}))
	}
	for _, x := range between {
		want := []string{"a" + x + "b"}
		if strings.Contains(ends, x) {
			want = []string{"a", "b"}
		}
		if got := call("a" + x + "b"); !slices.Equal(got, want) {
			t.Errorf("%s of a, %q, b: %q, not %q", what, x, got, want)
		}
	}
}

// P4.2: blanks are 32 and 9 alone, line ends 10 alone: no other rune, and no byte that is none.
func TestWhereWordsAndLinesEnd(t *testing.T) {
	isCutAt(t, "words", runes.Words, " \t")
	isCutAt(t, "lines", runes.Lines, "\n")
}

// P4.2: lines of texts that are written out: ends one behind the other, ahead of all, and at the text's end.
func TestLinesWrittenOut(t *testing.T) {
	for s, want := range map[string][]string{
		"": {}, "\n": {""}, "\n\n": {"", ""}, "\n\n\n": {"", "", ""},
		"a": {"a"}, "a\n": {"a"}, "\na": {"", "a"}, "a\n\n": {"a", ""}, "a\n\nb": {"a", "", "b"}, "a\nb": {"a", "b"}, "a\nb\n": {"a", "b"}, "\n\na\n\n": {"", "", "a", ""},
		" ": {" "}, " \n": {" "}, "\t\n \n": {"\t", " "}, "a b\nc": {"a b", "c"}, "a\r\nb": {"a\r", "b"}, "\r": {"\r"},
		"é\n😀\n": {"é", "😀"}, "\xff\n\xff": {"\xff", "\xff"}, "\n\ufffd": {"", "\ufffd"}, "\xe2\n\x82\xac\n": {"\xe2", "\x82\xac"},
	} {
		if got := runes.Lines(s); !slices.Equal(got, want) {
			t.Errorf("Lines(%q) = %q, not %q", s, got, want)
		}
	}
}

// P4.2: words and lines of all texts of up to six parts, and of texts of many kinds.
func TestWordsAndLinesOfManyTexts(t *testing.T) {
	look := func(s string) {
		if got, want := runes.Words(s), wordsOf(s); !slices.Equal(got, want) {
			t.Errorf("Words(%q) = %q, not %q", s, got, want)
		}
		if got, want := runes.Lines(s), linesOf(s); !slices.Equal(got, want) {
			t.Errorf("Lines(%q) = %q, not %q", s, got, want)
		}
	}
	across(cuts, 6, look)
	all(look)
}

// P4.2: lines with their ends behind them are the text again, but for an end that was not there.
func TestLinesAreTheText(t *testing.T) {
	across(cuts, 6, func(s string) {
		again := ""
		for _, line := range runes.Lines(s) {
			if strings.Contains(line, "\n") {
				t.Errorf("%q has a line %q", s, line)
			}
			again += line + "\n"
		}
		if again != s && again != s+"\n" {
			t.Errorf("of %q: %q", s, again)
		}
	})
}

// P4.2: many words, many lines, and a long one of each.
func TestManyWordsAndLines(t *testing.T) {
	long := strings.Repeat("é\xff", 10000)
	if l := runes.Words(strings.Repeat(long+" \t", 50)); len(l) != 50 || l[0] != long || l[49] != long {
		t.Error("words:", len(l))
	}
	if l := runes.Lines(strings.Repeat(long+"\n\n", 50)); len(l) != 100 || l[98] != long || l[99] != "" {
		t.Error("lines:", len(l))
	}
	if l := runes.Words(strings.Repeat(" ", 1<<16)); len(l) != 0 {
		t.Error("blanks have words:", len(l))
	}
	if l := runes.Lines(strings.Repeat("\n", 1<<16)); len(l) != 1<<16 {
		t.Error("line ends:", len(l))
	}
}

// R3, R4: lists that are told are new ones: who writes in one, or behind it, is seen nowhere else.
func TestListsAreNew(t *testing.T) {
	for _, s := range []string{"a b c", "a\nb\nc", "a b\nc d\n", "\n \n", "a\n"} {
		for _, call := range []func(string) []string{runes.Words, runes.Lines} {
			first, second := call(s), call(s)
			want := slices.Clone(first)
			room := first[:cap(first)]
			for i := range room {
				room[i] = "z"
			}
			if third := call(s); !slices.Equal(second, want) || !slices.Equal(third, want) {
				t.Errorf("of %q: %q, then %q and %q", s, want, second, third)
			}
		}
	}
}
