package runes_test

import (
	"fmt"
	"regexp"
	"strconv"
	"strings"
	"testing"
	"unicode/utf8"

	"wagtail/api"
	"wagtail/runes"
)

// escaped tells the escaped one of a text, glyph by glyph.
func escaped(s string) string {
	e := ""
	for _, g := range glyphs(s) {
		switch {
		case g.stray:
			e += fmt.Sprintf("\\x%02x.", g.bytes[0])
		case g.rune < 33 || g.rune > 126 || g.rune == 92:
			e += fmt.Sprintf("\\%02x.", g.rune)
		default:
			e += g.bytes
		}
	}
	return e
}

// part is what an escaped text is made of: a plain rune, but \; a rune by its number, and one that is less; a byte by its number.
var part = regexp.MustCompile(`^(?:([!-\[\]-~])|\\(0[0-9a-f]|[1-9a-f][0-9a-f]+)\.|\\x([89a-f][0-9a-f])\.)`)

// textOf tells the text of which s is the escaped one, and whether there is one: by what the chapter says may stand there, not by Escape.
func textOf(s string) (string, bool) {
	text, run := "", ""
	for s != "" {
		m := part.FindStringSubmatch(s)
		if m == nil {
			return "", false
		}
		s = s[len(m[0]):]
		if m[3] != "" {
			n, _ := strconv.ParseUint(m[3], 16, 8)
			run += string([]byte{byte(n)})
			text += run[len(run)-1:]
			// Single bytes one behind the other that are a rune together are escaped as that.
			for _, g := range glyphs(run) {
				if !g.stray {
					return "", false
				}
			}
			continue
		}
		run = ""
		if m[1] != "" {
			text += m[1]
			continue
		}
		n, err := strconv.ParseUint(m[2], 16, 31)
		if err != nil || !utf8.ValidRune(rune(n)) || n >= 33 && n <= 126 && n != 92 {
			return "", false
		}
		text += string(rune(n))
	}
	return text, true
}

// isBack tells what is wrong with Back of s, when it is the escaped one of a text.
func isBack(t *testing.T, s, text string) {
	t.Helper()
	if got, e := runes.Back(s); e != api.OK || got != text {
		t.Errorf("Back(%q) = %q, %d, not %q", s, got, e, text)
	}
}

// isNone tells what is wrong with Back of s, when it is the escaped one of no text.
func isNone(t *testing.T, s string) {
	t.Helper()
	if got, e := runes.Back(s); e != api.ErrForm || got != "" {
		t.Errorf("Back(%q) = %q, %d, not ErrForm", s, got, e)
	}
}

// P4.3: escaped texts that are written out, and back again.
func TestEscapeWrittenOut(t *testing.T) {
	for s, want := range map[string]string{
		"": "", "a": "a", "a \\": `a\20.\5c.`, "é\xff": `\e9.\xff.`, "😀b": `\1f600.b`,
		" ": `\20.`, "\t": `\09.`, "\n": `\0a.`, "\x00": `\00.`, "\x01": `\01.`, "\x0f": `\0f.`, "\x10": `\10.`, "\x1f": `\1f.`, "\x7f": `\7f.`,
		"!": "!", "~": "~", "[": "[", "]": "]", ".": ".", "x": "x", "\\": `\5c.`, "\\\\": `\5c.\5c.`, "20.": "20.", "\\20.": `\5c.20.`, "\\x80.": `\5c.x80.`,
		"\u0080": `\80.`, "\u00ff": `\ff.`, "\u0100": `\100.`, "\u07ff": `\7ff.`, "\u0800": `\800.`, "\ud7ff": `\d7ff.`, "\ue000": `\e000.`, "\uffff": `\ffff.`, "\U00010000": `\10000.`, "\U0010ffff": `\10ffff.`,
		"\ufffd": `\fffd.`, "\ufffd\xff\ufffd": `\fffd.\xff.\fffd.`, "\x80": `\x80.`, "\xc3": `\xc3.`, "\xc3\xc3\xa9": `\xc3.\e9.`, "\xa9\xc3\xa9": `\xa9.\e9.`,
		"\xed\xa0\x80": `\xed.\xa0.\x80.`, "\xc0\x80": `\xc0.\x80.`, "\xf4\x90\x80\x80": `\xf4.\x90.\x80.\x80.`, "\xe2\x82a\xac": `\xe2.\x82.a\xac.`,
		"wagtail kept": `wagtail\20.kept`,
	} {
		if got := runes.Escape(s); got != want {
			t.Errorf("Escape(%q) = %q, not %q", s, got, want)
		}
		isBack(t, want, s)
	}
}

// P4.3: each rune there is, among others, and back again.
func TestEscapeOfEachRune(t *testing.T) {
	for r := rune(0); r <= utf8.MaxRune; r++ {
		if !utf8.ValidRune(r) {
			continue
		}
		want := string(r)
		if r < 33 || r > 126 || r == 92 {
			want = fmt.Sprintf("\\%02x.", r)
		}
		if got := runes.Escape("a" + string(r) + "b"); got != "a"+want+"b" {
			t.Fatalf("%q among others: %q", r, got)
		}
		if got, e := runes.Back("a" + want + "b"); e != api.OK || got != "a"+string(r)+"b" {
			t.Fatalf("back, %q among others: %q, %d", r, got, e)
		}
	}
}

// P4.3: each byte that is no part of a right rune, alone, in front, behind, and twice.
func TestEscapeOfEachStrayByte(t *testing.T) {
	for n := 128; n < 256; n++ {
		b, want := string([]byte{byte(n)}), fmt.Sprintf("\\x%02x.", n)
		for _, c := range [][2]string{{b, want}, {"a" + b, "a" + want}, {b + "é", want + `\e9.`}, {b + "\ufffd" + b, want + `\fffd.` + want}, {b + " ", want + `\20.`}} {
			if got := runes.Escape(c[0]); got != c[1] {
				t.Errorf("Escape(%q) = %q, not %q", c[0], got, c[1])
			}
			isBack(t, c[1], c[0])
		}
	}
}

// P4.3, P4.5: Escape of many texts; Back of that is the text, each time.
func TestEscapeAndBackOfManyTexts(t *testing.T) {
	all(func(s string) {
		got := runes.Escape(s)
		if want := escaped(s); got != want {
			t.Errorf("Escape(%q) = %q, not %q", s, got, want)
		}
		isBack(t, got, s)
	})
}

// P4.3: what is escaped is plain, or nothing, and right.
func TestEscapedIsPlain(t *testing.T) {
	all(func(s string) {
		if got := runes.Escape(s); runes.Plain(got) != (s != "") || !runes.Right(got) {
			t.Errorf("Escape(%q) = %q", s, got)
		}
	})
}

// P4.3: texts that are escaped of none.
func TestBackOfNone(t *testing.T) {
	for _, s := range []string{
		// Not plain, as it is.
		" ", "\t", "\n", "a b", "é", "\x7f", "\x00", "\xff", "\ufffd", "a\xff", "😀", "\\20. ",
		// Plain, but by its number.
		`\61.`, `\21.`, `\7e.`, `\41.`, `\2e.`, `\78.`, `\5b.`, `\5d.`, `a\62.c`,
		// Needless noughts, or one digit alone.
		`\0.`, `\9.`, `\a.`, `\f.`, `\000.`, `\009.`, `\020.`, `\05c.`, `\0e9.`, `\00e9.`, `\01f600.`, `\0000000000000000000000000020.`,
		// Capital digits, other digits, signs.
		`\E9.`, `\5C.`, `\1F600.`, `\0A.`, `\FFFD.`, `\g0.`, `\2g.`, `\+20.`, `\-20.`, `\ 20.`, `\2 0.`, `\2_0.`, `\0x20.`, `\u20.`, `\é.`,
		// No point, no digits, no number.
		`\`, `\\`, `\.`, `\20`, `\20,`, `a\`, `a\5c`, `\20.\5c`, `\20\5c.`, `\5`, `\5c`, `\..`, `\x`, `\x.`, `\x`, `\x80`, `x\`, `\\20.`, `\20.\`,
		// No rune's number.
		`\d800.`, `\dbff.`, `\dc00.`, `\dfff.`, `\110000.`, `\1fffff.`, `\7fffffff.`, `\80000000.`, `\ffffffff.`, `\100000020.`, `\10000000000000020.`, `\fffffffffffffffff.`,
		// No single byte's number, or written otherwise.
		`\x8.`, `\x080.`, `\x100.`, `\x180.`, `\x0ff.`, `\xFF.`, `\xfF.`, `\X80.`, `\xx80.`, `\x8g.`, `\x+80.`, `\x-80.`, `\x 80.`, `\x8_0.`, `\x.80.`,
		// Bytes that are right runes alone.
		`\x00.`, `\x20.`, `\x41.`, `\x5c.`, `\x7f.`, `\x0a.`,
		// Bytes that are a right rune together.
		`\xc3.\xa9.`, `\xe2.\x82.\xac.`, `\xf0.\x9f.\x98.\x80.`, `\xef.\xbf.\xbd.`, `a\xc2.\x80.`, `\xc2.\x80.a`, `\xff.\xc2.\x80.\xff.`, `\xc3.\xc3.\xa9.`, `\xe2.\xe2.\x82.\xac.`,
	} {
		isNone(t, s)
		if _, ok := textOf(s); ok {
			t.Errorf("%q is the escaped one of a text, by the other way", s)
		}
	}
}

// P4.3: what is wrong is told wherever it stands, in a long text, too.
func TestBackLooksAtAll(t *testing.T) {
	long := strings.Repeat(`a\20.\xff.\fffd.`, 500)
	isBack(t, long, strings.Repeat("a \xff\ufffd", 500))
	for _, s := range []string{" ", `\61.`, `\0.`, `\020.`, `\E9.`, `\d800.`, `\x41.`, `\xc3.\xa9.`, `\q.`, "é", "\xff"} {
		isNone(t, s+long)
		isNone(t, long+s)
		isNone(t, long+s+long)
	}
	isNone(t, long[:len(long)-1])
	isNone(t, long+`\`)
	isNone(t, strings.Repeat(`\`, 1<<16))
	isNone(t, `\`+strings.Repeat("0", 1<<16)+"20.")
}

// P4.3: all texts of some letters that matter: Back is right just of those that are a text's.
func TestBackOfAllShortTexts(t *testing.T) {
	good := 0
	look := func(s string) {
		text, ok := textOf(s)
		if !ok {
			isNone(t, s)
			return
		}
		good++
		isBack(t, s, text)
		if again := runes.Escape(text); again != s {
			t.Errorf("Escape of Back of %q: %q", s, again)
		}
	}
	across([]string{`\`, ".", "x", "0", "5", "c", "C", "a", " "}, 6, look)
	across([]string{`\x`, `\`, ".", "c3", "a9", "80", "e2", "82", "ac", "20", "61"}, 5, look)
	across([]string{`\xc3.`, `\xa9.`, `\e9.`, `\xe2.`, `\x82.`, `\xac.`, `\20ac.`, `\xf0.`, `\x9f.`, `\xff.`, "a"}, 5, look)
	if good < 1000 {
		t.Error("of no more than", good, "was there a text")
	}
}

// P4.5: what Back tells is escaped as that was; all numbers of up to four digits, and more at the edges.
func TestEscapeOfBackOfNumbers(t *testing.T) {
	look := func(digits string) {
		for _, s := range []string{`\` + digits + ".", `\x` + digits + "."} {
			text, ok := textOf(s)
			if !ok {
				isNone(t, s)
				continue
			}
			isBack(t, s, text)
			if again := runes.Escape(text); again != s {
				t.Errorf("Escape of Back of %q: %q", s, again)
			}
		}
	}
	for n := range 1 << 16 {
		for _, form := range []string{"%x", "%02x", "%03x", "%04x", "%X"} {
			look(fmt.Sprintf(form, n))
		}
	}
	for _, n := range []uint64{1 << 16, 1<<16 + 1, 0x1f600, 0xfffff, 0x10fffe, 0x10ffff, 0x110000, 1 << 21, 1 << 31, 1 << 32, 1<<32 + 0xe9, 1<<64 - 1} {
		look(fmt.Sprintf("%x", n))
		look(fmt.Sprintf("%X", n))
		look(fmt.Sprintf("0%x", n))
	}
}

// R4: Escape and Back hang on the text alone: asked again, with others between, they tell the same.
func TestEscapeAndBackAgain(t *testing.T) {
	l := texts()
	first := map[string]string{}
	for _, s := range l {
		first[s] = runes.Escape(s)
	}
	for i := range l {
		s := string([]byte(l[len(l)-1-i]))
		isNone(t, `\`)
		if got := runes.Escape(s); got != first[s] {
			t.Errorf("%q: %q, then %q", s, first[s], got)
		}
		isBack(t, first[s], s)
		isBack(t, first[s], s)
	}
}
