package stamp_test

import (
	"math"
	"strconv"
	"strings"
	"testing"

	"wagtail/api"
	"wagtail/stamp"
)

// made is a name and a stamp, as they are handed in.
type made struct {
	src api.Eid
	s   api.Stamp
}

// schemes are the two that there are, and others, in the whole range of their type.
func schemes() []int {
	return []int{1, 2, 0, -1, -2, 3, 10, 11, 12, 21, 22, -10, -12, 1<<32 + 1, math.MinInt, math.MinInt + 1, math.MaxInt - 1, math.MaxInt}
}

// few are numbers that differ by one, in the last digit, in how many digits they have, or at the far end of their range.
func few() []uint64 {
	return []uint64{0, 1, 2, 10, 11, 12, 21, 111, 112, greatest/10 + 1, greatest - 1, greatest}
}

// keyNames are Names: those that may be, and those that look like the numbers ahead of them, or like what stands between these.
func keyNames() []string {
	return []string{"", "//a", "//a/b", "//b", "//1", "//1 2", " ", "  ", "   ", " //a", "//a ", "0", "1", "10", "1 ", " 1", "1 1", "1 1 ", "1  1", " 1 1", "0 0", "0 0 ", "0 0 0 0 0 ", "0 0 0 0 0", "1 0 0 0 0 ", "1 0 0 0 0 //a", "2 1 1 1 1 ", "2 5 1 7 0 ", "-1", "-1 0 0 0 0 ", "\t", "\n", "\x00", "1\t", "\u00a0", "1\u00a01", "\u0661", "\u00e9", "\U0001f600", "\xff", "\xff\xfe", "\xc3", strings.Repeat("a", 64), strings.Repeat("a", 65), strings.Repeat("1 ", 500), strings.Repeat(" ", 500), strings.Repeat("a", 100000)}
}

// read reads a key back, a number up to each of the first five blanks, and the Name, that is the rest of it.
func read(t *testing.T, key string) made {
	t.Helper()
	parts := strings.SplitN(key, " ", 6)
	if len(parts) != 6 {
		t.Fatalf("%.100q has no five blanks", key)
	}
	scheme, e := strconv.Atoi(parts[0])
	if e != nil || strconv.Itoa(scheme) != parts[0] {
		t.Errorf("%.100q: no Scheme", key)
	}
	n := make([]uint64, 0, 4)
	for _, digits := range parts[1:5] {
		m, e := strconv.ParseUint(digits, 10, 64)
		if e != nil || strconv.FormatUint(m, 10) != digits {
			t.Errorf("%.100q: %q is no number", key, digits)
		}
		n = append(n, m)
	}
	return made{api.Eid{Scheme: scheme, Node: n[0], Service: n[1], Name: parts[5]}, api.Stamp{Time: n[2], Seq: n[3]}}
}

// differ looks at the keys of a list, in which nothing stands twice: each is another one, is the same when it is asked again, and may be read back.
func differ(t *testing.T, l []made) {
	t.Helper()
	keys := map[string]made{}
	for _, m := range l {
		key := stamp.Key(m.src, m.s)
		if other, ok := keys[key]; ok {
			t.Errorf("%.100q is the key of %v and %v", key, other, m)
		}
		keys[key] = m
		if again := stamp.Key(m.src, m.s); again != key {
			t.Errorf("%.100q, and then %.100q", key, again)
		}
		if got := read(t, key); got != m {
			t.Errorf("the key of %v is that of %v", m, got)
		}
	}
}

// P8.4: keys, byte for byte: each field in its place, a blank behind each number, and nothing behind the Name.
func TestKeys(t *testing.T) {
	for _, c := range []struct {
		m   made
		key string
	}{
		{made{api.Eid{Scheme: 1, Name: "//a"}, api.Stamp{Time: 5, Seq: 7}}, "1 0 0 5 7 //a"}, {made{api.Eid{Scheme: 2, Node: 5, Service: 1}, api.Stamp{Time: 700, Seq: 12}}, "2 5 1 700 12 "}, {made{api.Eid{Scheme: 1}, api.Stamp{}}, "1 0 0 0 0 "}, {made{}, "0 0 0 0 0 "},
		{made{api.Eid{Scheme: 3, Node: 4, Service: 5, Name: "six"}, api.Stamp{Time: 8, Seq: 9}}, "3 4 5 8 9 six"}, {made{api.Eid{Scheme: 1, Name: "//host/app"}, api.Stamp{Seq: 1}}, "1 0 0 0 1 //host/app"}, {made{api.Eid{Scheme: 2, Service: 10}, api.Stamp{Time: 100}}, "2 0 10 100 0 "},
		{made{api.Eid{Scheme: 2, Node: greatest, Service: greatest}, api.Stamp{Time: greatest, Seq: greatest}}, "2 18446744073709551615 18446744073709551615 18446744073709551615 18446744073709551615 "}, {made{api.Eid{Scheme: 2, Node: 1 << 63, Service: 1<<63 - 1}, api.Stamp{Time: 1 << 63, Seq: 1 << 32}}, "2 9223372036854775808 9223372036854775807 9223372036854775808 4294967296 "},
		{made{api.Eid{Scheme: -1}, api.Stamp{}}, "-1 0 0 0 0 "}, {made{api.Eid{Scheme: -20, Name: "a"}, api.Stamp{Time: 1}}, "-20 0 0 1 0 a"}, {made{api.Eid{Scheme: math.MinInt64}, api.Stamp{}}, "-9223372036854775808 0 0 0 0 "}, {made{api.Eid{Scheme: math.MaxInt64}, api.Stamp{}}, "9223372036854775807 0 0 0 0 "},
		{made{api.Eid{Scheme: 1, Name: " "}, api.Stamp{}}, "1 0 0 0 0  "}, {made{api.Eid{Scheme: 1, Name: "2 3"}, api.Stamp{}}, "1 0 0 0 0 2 3"}, {made{api.Eid{Scheme: 1, Name: "2 "}, api.Stamp{}}, "1 0 0 0 0 2 "}, {made{api.Eid{Scheme: 1, Name: "\xff\n\x00"}, api.Stamp{}}, "1 0 0 0 0 \xff\n\x00"}, {made{api.Eid{Scheme: 2, Node: 5, Name: "//no"}, api.Stamp{}}, "2 5 0 0 0 //no"},
	} {
		if got := stamp.Key(c.m.src, c.m.s); got != c.key {
			t.Errorf("Key(%v) = %q, not %q", c.m, got, c.key)
		}
	}
}

// P8.4: all of few numbers at each place have other keys, under a Name, and under none.
func TestKeysOfNumbers(t *testing.T) {
	var l []made
	for _, a := range few() {
		for _, b := range few() {
			for _, c := range few() {
				for _, d := range few() {
					l = append(l, made{api.Eid{Scheme: 2, Node: a, Service: b}, api.Stamp{Time: c, Seq: d}}, made{api.Eid{Scheme: 1, Node: a, Service: b, Name: "1 1"}, api.Stamp{Time: c, Seq: d}})
				}
			}
		}
	}
	differ(t, l)
}

// P8.4: all Schemes and Names have other keys, with numbers that look like theirs.
func TestKeysOfNames(t *testing.T) {
	var l []made
	for _, scheme := range schemes() {
		for _, name := range keyNames() {
			for n := range uint64(16) {
				l = append(l, made{api.Eid{Scheme: scheme, Node: n & 1, Service: n >> 1 & 1, Name: name}, api.Stamp{Time: n >> 2 & 1, Seq: n >> 3}})
			}
		}
	}
	differ(t, l)
}

// P8.4: one field changed alone, by one or in how many digits it has, makes another key; of the same ones it is the same.
func TestKeysOfOneFieldChanged(t *testing.T) {
	was := made{api.Eid{Scheme: 1, Node: 10, Service: 10, Name: "10"}, api.Stamp{Time: 10, Seq: 10}}
	changed := []made{was}
	for _, n := range []uint64{9, 11, 1, 100, 0, 101, greatest} {
		for at := range 4 {
			m := was
			*[]*uint64{&m.src.Node, &m.src.Service, &m.s.Time, &m.s.Seq}[at] = n
			changed = append(changed, m)
		}
	}
	for _, scheme := range []int{0, 2, 10, 11, 101, -1, -10, math.MinInt, math.MaxInt} {
		m := was
		m.src.Scheme = scheme
		changed = append(changed, m)
	}
	for _, name := range []string{"", "1", "0", "9", "11", "100", "10 ", " 10", "010", "10\x00"} {
		m := was
		m.src.Name = name
		changed = append(changed, m)
	}
	differ(t, changed)
	if a, b := stamp.Key(was.src, was.s), stamp.Key(api.Eid{Scheme: 1, Node: 10, Service: 10, Name: string([]byte("10"))}, api.Stamp{Time: 10, Seq: 10}); a != b {
		t.Errorf("%q, %q", a, b)
	}
}

// P8.4: the same digits, cut into numbers and a Name at other places, make other keys.
func TestKeysOfTheSameDigits(t *testing.T) {
	digits := "1234567"
	var l []made
	for a := 1; a < len(digits)-3; a++ {
		for b := a + 1; b < len(digits)-2; b++ {
			for c := b + 1; c < len(digits)-1; c++ {
				for d := c + 1; d < len(digits); d++ {
					n := make([]uint64, 0, 5)
					for _, part := range []string{digits[:a], digits[a:b], digits[b:c], digits[c:d], digits[d:]} {
						m, _ := strconv.ParseUint(part, 10, 64)
						n = append(n, m)
					}
					l = append(l, made{api.Eid{Scheme: int(n[0]), Node: n[1], Service: n[2]}, api.Stamp{Time: n[3], Seq: n[4]}}, made{api.Eid{Scheme: 1, Node: n[0], Service: n[1], Name: digits[d:]}, api.Stamp{Time: n[2], Seq: n[3]}})
				}
			}
		}
	}
	differ(t, l)
}
