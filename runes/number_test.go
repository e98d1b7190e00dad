package runes_test

import (
	"math"
	"math/big"
	"strings"
	"testing"

	"wagtail/runes"
)

// far is how far from 0 a number may be that is read.
const far = 1 << 40

// numbers are those from -2^40 to 2^40 at whose digits something changes, and many within.
func numbers() []int {
	l := []int{0, 1, 9, 10, 258, 1099511627776, 1099511627775, 123456789}
	for n := 1; n <= far/10; n *= 10 {
		l = append(l, n-1, n, n+1, 9*n, 10*n-1)
	}
	for i := range 41 {
		l = append(l, 1<<i-1, 1<<i, (1<<i+1)%far)
	}
	for _, n := range l {
		l = append(l, -n)
	}
	for n := -2000; n <= 2000; n++ {
		l = append(l, n)
	}
	return l
}

// beyond are numbers that are farther from 0, up to the ends of the type.
func beyond() []int {
	l := []int{far + 1, far + 2, far * 2, far * 10, math.MaxInt, math.MaxInt - 1, math.MaxInt / 10}
	for i := 41; i < 63; i++ {
		l = append(l, 1<<i, 1<<i+1)
	}
	for _, n := range l {
		l = append(l, -n)
	}
	return append(l, math.MinInt, math.MinInt+1)
}

// isNumber tells what is wrong with Number of s, when it is the digits of one.
func isNumber(t *testing.T, s string, n int) {
	t.Helper()
	if got, ok := runes.Number(s); !ok || got != n {
		t.Errorf("Number(%q) = %d, %v, not %d", s, got, ok, n)
	}
}

// isNoNumber tells what is wrong with Number of s, when it is the digits of none.
func isNoNumber(t *testing.T, s string) {
	t.Helper()
	if got, ok := runes.Number(s); ok || got != 0 {
		t.Errorf("Number(%q) = %d, %v: that is none", s, got, ok)
	}
}

// P4.4: digits that are written out, the least and the greatest number among them.
func TestDigitsWrittenOut(t *testing.T) {
	for n, want := range map[int]string{
		0: "0", 1: "1", -1: "-1", 9: "9", 10: "10", -10: "-10", 258: "258", 1 << 40: "1099511627776", -1 << 40: "-1099511627776",
		math.MaxInt32: "2147483647", math.MinInt32: "-2147483648", math.MaxInt64: "9223372036854775807", math.MinInt64: "-9223372036854775808", math.MinInt64 + 1: "-9223372036854775807",
	} {
		if got := runes.Digits(n); got != want {
			t.Errorf("Digits(%d) = %q, not %q", n, got, want)
		}
	}
}

// P4.4: digits of many numbers, told by another way.
func TestDigits(t *testing.T) {
	for _, l := range [][]int{numbers(), beyond()} {
		for _, n := range l {
			if got, want := runes.Digits(n), big.NewInt(int64(n)).Text(10); got != want {
				t.Errorf("Digits(%d) = %q, not %q", n, got, want)
			}
		}
	}
}

// P4.4, P4.5: Number of Digits is the number, from -2^40 to 2^40.
func TestNumberOfDigits(t *testing.T) {
	for _, n := range numbers() {
		isNumber(t, runes.Digits(n), n)
	}
}

// P4.4: the ends of what is read, and what is beyond, that has digits, too.
func TestNumberBeyond(t *testing.T) {
	isNumber(t, "1099511627776", far)
	isNumber(t, "-1099511627776", -far)
	isNumber(t, "1099511627775", far-1)
	isNumber(t, "-1099511627775", 1-far)
	isNoNumber(t, "1099511627777")
	isNoNumber(t, "-1099511627777")
	for _, n := range beyond() {
		isNoNumber(t, runes.Digits(n))
	}
	for _, s := range []string{
		"9223372036854775808", "-9223372036854775809", "18446744073709551615", "18446744073709551616", "18446744073709551617", "-18446744073709551617",
		"36893488147419103233", "340282366920938463463374607431768211457", "10000000000000", "99999999999999999999",
	} {
		isNoNumber(t, s)
	}
	isNoNumber(t, strings.Repeat("9", 1<<16))
	isNoNumber(t, "-"+strings.Repeat("1", 1<<16))
	isNoNumber(t, strings.Repeat("0", 1<<16)+"7")
}

// P4.4: what is no number's digits, though it looks like them.
func TestNumberOfWhatIsNone(t *testing.T) {
	for _, s := range []string{
		"", "-", "+", "--", "-+1", "+-1", "--1", "+0", "+1", "+7", "+1099511627776", "-0", "00", "-00", "01", "007", "-01", "-007", "000", "0000000001", "01099511627776", "-01099511627776",
		" 1", "1 ", "1\n", "\t1", "- 1", "-1 ", "1 2", "1,000", "1_000", "1_0", "_1", "1.", "1.0", ".5", "1e3", "0x10", "0b1", "0o7", "1a", "a", "ff", "a1", "1-", "1+", "1-2",
		"\x00", "1\x00", "\x001", "\xff", "1\xff", "\ufffd", "−1", "１", "٣", "²", "½", "é", "−", "∞", "nan", "NaN", "inf", "true",
	} {
		isNoNumber(t, s)
	}
}

// P4.4: all texts of up to five letters that matter: each that is read is what Digits tells of it, and no other one is.
func TestNumberOfAllShortTexts(t *testing.T) {
	want := map[string]int{}
	for n := -9999; n <= 99999; n++ {
		want[big.NewInt(int64(n)).String()] = n
	}
	across([]string{"-", "+", "0", "1", "9", " ", ".", "_", "x"}, 5, func(s string) {
		if n, ok := want[s]; ok {
			isNumber(t, s, n)
		} else {
			isNoNumber(t, s)
		}
	})
}

// P4.4: one letter more, at each place of a number's digits: what is read is what Digits tells of it.
func TestNumberWithOneLetterMore(t *testing.T) {
	for _, n := range []int{0, 7, 10, 258, 123456789, far, -1, -10, -258, -far} {
		digits := runes.Digits(n)
		for at := range len(digits) + 1 {
			for x := range 256 {
				s := digits[:at] + string([]byte{byte(x)}) + digits[at:]
				got, ok := runes.Number(s)
				whole, right := new(big.Int).SetString(s, 10)
				right = right && whole.String() == s && whole.IsInt64() && whole.Int64() >= -far && whole.Int64() <= far
				if ok != right || ok && int64(got) != whole.Int64() || !ok && got != 0 {
					t.Errorf("Number(%q) = %d, %v", s, got, ok)
				}
			}
		}
	}
}

// R4: Digits and Number hang on what they are given alone: asked again, with others between, they tell the same.
func TestNumbersAgain(t *testing.T) {
	for range 2 {
		for _, n := range []int{0, -1, far, -far, 258} {
			digits := runes.Digits(n)
			isNoNumber(t, "+1")
			runes.Digits(math.MinInt)
			isNumber(t, string([]byte(digits)), n)
			if again := runes.Digits(n); again != digits {
				t.Errorf("Digits(%d): %q, then %q", n, digits, again)
			}
		}
	}
}
