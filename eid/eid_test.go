package eid_test

import (
	"fmt"
	"math"
	"reflect"
	"regexp"
	"strings"
	"testing"

	"wagtail/api"
	"wagtail/eid"
)

// somebody is the form of a Name that is not empty, of a name that may be: from 3 to 64 bytes, // ahead, and plain runes alone.
var somebody = regexp.MustCompile(`\A//[!-~]{1,62}\z`)

// greatest is the greatest number that there is.
const greatest = math.MaxUint64

// names are those that may be, of all kinds and at all edges, each another one.
func names() []api.Eid {
	l := []api.Eid{{Scheme: 1}}
	for _, name := range rightNames() {
		l = append(l, api.Eid{Scheme: 1, Name: name})
	}
	for _, node := range numbers() {
		for _, service := range numbers() {
			l = append(l, api.Eid{Scheme: 2, Node: node, Service: service})
		}
	}
	return l
}

// rightNames are Names that may be of scheme 1, without the empty one.
func rightNames() []string {
	l := []string{"///", "////", "//a/", "//a/b", "//a/b/c/", "//a//b", "///a", "////a", "//aa", "//none", "//ipn:5.1", "//dtn:none", "//a.b:c@d-e~", "//" + strings.Repeat("a", 61), "//" + strings.Repeat("b", 62), strings.Repeat("/", 64), "//a/" + strings.Repeat("c", 60), "//" + strings.Repeat("d", 61) + "/"}
	for b := byte(33); b <= 126; b++ {
		if b != '/' {
			l = append(l, "//"+string(rune(b)))
		}
	}
	return l
}

// wrongNames are Names that may be of no scheme.
func wrongNames() []string {
	l := []string{"/", "//", "a", "ab", "abc", "none", "/a", "/ab", "/none", "/ //a", "a//b", "a//", " //a", "dtn://a", "dtn:none", "ipn:5.1", `\\a`, "/\\a", "\uff0f\uff0fa", "//" + strings.Repeat("a", 63), strings.Repeat("/", 65), "//" + strings.Repeat("a", 100000),
		"//a b", "//a ", "// a", "//a\tb", "//a\n", "\n//a", "//a\x00", "\x00//a", "//\u00e9", "//a\u00e9", "//\u6c34", "//\U0001f600", "//\ufffd", "//\u0661", "//" + strings.Repeat("\u00e9", 31), "//" + strings.Repeat("a", 60) + "\u00e9", "//a\xc3", "//\xc3\xa9\xff", "//\xed\xa0\x80", "//\xc1\xa1", "\xff//a", "\xff"}
	for b := range 256 {
		if b < 33 || b > 126 {
			l = append(l, "//"+string([]byte{byte(b)}), "//a"+string([]byte{byte(b)})+"b")
		}
	}
	return l
}

// numbers are 0, the greatest one, those at each end of a width, and some within.
func numbers() []uint64 {
	return []uint64{0, 1, 5, 9, 10, 12, 23, 24, 255, 256, 65535, 65536, 1<<32 - 1, 1 << 32, 1<<63 - 1, 1 << 63, greatest - 1, greatest}
}

// schemes are the two that there are, and others, in the whole range of their type.
func schemes() []int {
	return []int{1, 2, 0, -1, -2, 3, 4, 5, 255, 256, 257, 258, 1<<32 + 1, 1<<32 + 2, math.MinInt, math.MinInt + 1, math.MinInt + 2, math.MaxInt}
}

// may tells by the chapter's words whether a name may be.
func may(e api.Eid) bool {
	if e.Scheme == 1 {
		return e.Node == 0 && e.Service == 0 && (e.Name == "" || somebody.MatchString(e.Name))
	}
	return e.Scheme == 2 && e.Name == ""
}

// isRight looks at all that is told of a name that may be.
func isRight(t *testing.T, e api.Eid) {
	t.Helper()
	text, value, host := fmt.Sprintf("ipn:%d.%d", e.Node, e.Service), any([]any{uint64(2), []any{e.Node, e.Service}}), fmt.Sprint(e.Node)
	if e.Scheme == 1 && e.Name == "" {
		text, value, host = "dtn:none", []any{uint64(1), uint64(0)}, ""
	} else if e.Scheme == 1 {
		text, value, host = "dtn:"+e.Name, []any{uint64(1), e.Name}, strings.Split(e.Name, "/")[2]
	}
	if !eid.Right(e) {
		t.Errorf("%s may be", brief(e))
	}
	s, f := eid.Text(e)
	want(t, e, s, f, text, api.OK)
	v, f := eid.Value(e)
	want(t, e, v, f, value, api.OK)
	if got := eid.Host(e); got != host {
		t.Errorf("Host(%s) = %q, not %q", brief(e), got, host)
	}
}

// isWrong looks at all that is told of a name that may not be.
func isWrong(t *testing.T, e api.Eid) {
	t.Helper()
	if eid.Right(e) {
		t.Errorf("%s may not be", brief(e))
	}
	s, f := eid.Text(e)
	want(t, e, s, f, "", api.ErrArg)
	v, f := eid.Value(e)
	want(t, e, v, f, nil, api.ErrArg)
	if got := eid.Host(e); got != "" {
		t.Errorf("Host(%s) = %q, though it may not be", brief(e), got)
	}
}

// isEither looks at all that is told of a name, whether it may be or not.
func isEither(t *testing.T, e api.Eid) {
	t.Helper()
	if may(e) {
		isRight(t, e)
	} else {
		isWrong(t, e)
	}
}

// want tells what is wrong with an answer to what was asked, if it is not that error alone, or that value.
func want[T any](t *testing.T, asked any, got T, e api.Errno, wanted T, err api.Errno) {
	t.Helper()
	if e != err || !reflect.DeepEqual(got, wanted) {
		t.Errorf("%s: %s, %d, not %s, %d", brief(asked), brief(got), e, brief(wanted), err)
	}
}

// brief tells whatever it is, and of what is long how it begins.
func brief(v any) string {
	return fmt.Sprintf("%.100q", fmt.Sprintf("%+v", v))
}

// P7.1, P7.2, P7.3, P7.4: names that may be, each kind at its edges.
func TestNamesThatMayBe(t *testing.T) {
	for _, e := range names() {
		isRight(t, e)
	}
}

// P7.1, P7.2, P7.3, P7.4: Names that may not be, of scheme 1, and of scheme 2, that has none.
func TestNamesThatMayNotBe(t *testing.T) {
	for _, name := range wrongNames() {
		isWrong(t, api.Eid{Scheme: 1, Name: name})
		isWrong(t, api.Eid{Scheme: 2, Name: name})
		isWrong(t, api.Eid{Scheme: 2, Name: name, Node: 5, Service: 1})
	}
	for _, name := range rightNames() {
		isWrong(t, api.Eid{Scheme: 2, Name: name})
		isWrong(t, api.Eid{Scheme: 2, Name: name, Node: 5, Service: 1})
	}
}

// P7.1, P7.2, P7.3, P7.4: numbers beside a Name, and of scheme 1 at all.
func TestNumbersOfSchemeOne(t *testing.T) {
	for _, name := range append(rightNames(), "", "//", "none") {
		for _, n := range numbers()[1:] {
			isWrong(t, api.Eid{Scheme: 1, Name: name, Node: n})
			isWrong(t, api.Eid{Scheme: 1, Name: name, Service: n})
			isWrong(t, api.Eid{Scheme: 1, Name: name, Node: n, Service: n})
		}
	}
}

// P7.1, P7.2, P7.3, P7.4: schemes of all kinds, with whatever a name has beside.
func TestSchemes(t *testing.T) {
	for _, scheme := range schemes() {
		for _, name := range []string{"", "//a", "//a/b", "//", "none"} {
			for _, n := range [][2]uint64{{0, 0}, {5, 1}, {0, greatest}, {greatest, 0}, {1, 0}, {0, 2}} {
				isEither(t, api.Eid{Scheme: scheme, Name: name, Node: n[0], Service: n[1]})
			}
		}
	}
	isWrong(t, api.Eid{})
}

// P7.1: None is dtn:none, and may be.
func TestNone(t *testing.T) {
	if got := eid.None(); got != (api.Eid{Scheme: 1}) || !eid.Right(got) {
		t.Errorf("None() = %+v", got)
	}
}

// P7.1: of Names of every length just those from 3 to 64 bytes may be.
func TestLengthsOfNames(t *testing.T) {
	for n := range 300 {
		e := api.Eid{Scheme: 1, Name: strings.Repeat("/", n)}
		if got, wanted := eid.Right(e), n == 0 || n >= 3 && n <= 64; got != wanted {
			t.Errorf("a Name of %d bytes may be: %t", n, got)
		}
	}
}

// P7.1, P7.4: a Name with each byte at each of its places.
func TestEachByteOfNames(t *testing.T) {
	for _, name := range []string{"//a", "//ab/c", "//" + strings.Repeat("x", 62)} {
		for at := range len(name) {
			for b := range 256 {
				changed := []byte(name)
				changed[at] = byte(b)
				isEither(t, api.Eid{Scheme: 1, Name: string(changed)})
			}
		}
	}
}

// P7.4: whose end it is: up to the next / behind //, or all; of ipn the Node; else nothing.
func TestHost(t *testing.T) {
	long := strings.Repeat("h", 62)
	for _, c := range []struct {
		e    api.Eid
		host string
	}{
		{api.Eid{Scheme: 1, Name: "//a"}, "a"}, {api.Eid{Scheme: 1, Name: "//host"}, "host"}, {api.Eid{Scheme: 1, Name: "//host/"}, "host"}, {api.Eid{Scheme: 1, Name: "//host/app"}, "host"}, {api.Eid{Scheme: 1, Name: "//host/a/b/c"}, "host"}, {api.Eid{Scheme: 1, Name: "//host//b"}, "host"},
		{api.Eid{Scheme: 1, Name: "///"}, ""}, {api.Eid{Scheme: 1, Name: "////"}, ""}, {api.Eid{Scheme: 1, Name: "///host"}, ""}, {api.Eid{Scheme: 1, Name: "////host/a"}, ""}, {api.Eid{Scheme: 1, Name: `//a\b`}, `a\b`}, {api.Eid{Scheme: 1, Name: "//none"}, "none"}, {api.Eid{Scheme: 1, Name: "//" + long}, long}, {api.Eid{Scheme: 1, Name: "//" + long[1:] + "/"}, long[1:]},
		{api.Eid{Scheme: 2}, "0"}, {api.Eid{Scheme: 2, Service: 7}, "0"}, {api.Eid{Scheme: 2, Node: 12}, "12"}, {api.Eid{Scheme: 2, Node: 5, Service: 1}, "5"}, {api.Eid{Scheme: 2, Node: 1 << 63}, "9223372036854775808"}, {api.Eid{Scheme: 2, Node: greatest, Service: 1}, "18446744073709551615"},
		{eid.None(), ""}, {api.Eid{}, ""}, {api.Eid{Node: 5}, ""}, {api.Eid{Scheme: 3, Node: 5}, ""}, {api.Eid{Scheme: -2, Node: 5}, ""}, {api.Eid{Scheme: 3, Name: "//host"}, ""}, {api.Eid{Scheme: 1, Name: "host"}, ""}, {api.Eid{Scheme: 1, Name: "/host/a"}, ""}, {api.Eid{Scheme: 1, Name: "//"}, ""}, {api.Eid{Scheme: 1, Name: "//host/a b"}, ""},
		{api.Eid{Scheme: 1, Name: "//host/\u00e9"}, ""}, {api.Eid{Scheme: 1, Name: "//h" + long}, ""}, {api.Eid{Scheme: 1, Name: "//host", Node: 5}, ""}, {api.Eid{Scheme: 1, Name: "//host", Service: 5}, ""}, {api.Eid{Scheme: 1, Node: 5}, ""}, {api.Eid{Scheme: 2, Name: "//host", Node: 5}, ""},
	} {
		if got := eid.Host(c.e); got != c.host {
			t.Errorf("Host(%s) = %q, not %q", brief(c.e), got, c.host)
		}
	}
}
