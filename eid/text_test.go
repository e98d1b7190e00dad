package eid_test

import (
	"math/big"
	"regexp"
	"strings"
	"testing"

	"wagtail/api"
	"wagtail/eid"
)

// ipnForm is the form of a text of scheme 2, however great its numbers are.
var ipnForm = regexp.MustCompile(`\Aipn:(0|[1-9][0-9]*)\.(0|[1-9][0-9]*)\z`)

// parsed reads a text by the chapter's words, and numbers by the library's own of any size.
func parsed(s string) (api.Eid, api.Errno) {
	if s == "dtn:none" {
		return api.Eid{Scheme: 1}, api.OK
	}
	if name, ok := strings.CutPrefix(s, "dtn:"); ok && somebody.MatchString(name) {
		return api.Eid{Scheme: 1, Name: name}, api.OK
	}
	if m := ipnForm.FindStringSubmatch(s); m != nil {
		node, _ := new(big.Int).SetString(m[1], 10)
		service, _ := new(big.Int).SetString(m[2], 10)
		if node.IsUint64() && service.IsUint64() {
			return api.Eid{Scheme: 2, Node: node.Uint64(), Service: service.Uint64()}, api.OK
		}
	}
	return api.Eid{}, api.ErrForm
}

// isParsed looks at what is read of a text, and, if that is a name, at the way back.
func isParsed(t *testing.T, s string) {
	t.Helper()
	wanted, err := parsed(s)
	e, f := eid.Parse(s)
	want(t, s, e, f, wanted, err)
	if f == api.OK {
		text, g := eid.Text(e)
		want(t, e, text, g, s, api.OK)
	}
}

// P7.2: texts that are names', and the names.
func TestTexts(t *testing.T) {
	for s, e := range map[string]api.Eid{
		"dtn:none": {Scheme: 1}, "dtn://a": {Scheme: 1, Name: "//a"}, "dtn://host/app": {Scheme: 1, Name: "//host/app"}, "dtn:///": {Scheme: 1, Name: "///"}, "dtn://none": {Scheme: 1, Name: "//none"}, "dtn://dtn:none": {Scheme: 1, Name: "//dtn:none"}, "dtn://ipn:5.1": {Scheme: 1, Name: "//ipn:5.1"}, `dtn://\20.`: {Scheme: 1, Name: `//\20.`}, "dtn://" + strings.Repeat("z", 62): {Scheme: 1, Name: "//" + strings.Repeat("z", 62)},
		"ipn:5.1": {Scheme: 2, Node: 5, Service: 1}, "ipn:0.0": {Scheme: 2}, "ipn:0.1": {Scheme: 2, Service: 1}, "ipn:10.0": {Scheme: 2, Node: 10}, "ipn:100.2030": {Scheme: 2, Node: 100, Service: 2030}, "ipn:9223372036854775807.9223372036854775808": {Scheme: 2, Node: 1<<63 - 1, Service: 1 << 63}, "ipn:18446744073709551615.18446744073709551615": {Scheme: 2, Node: greatest, Service: greatest}, "ipn:18446744073709551614.4294967296": {Scheme: 2, Node: greatest - 1, Service: 1 << 32},
	} {
		got, f := eid.Parse(s)
		want(t, s, got, f, e, api.OK)
		text, f := eid.Text(e)
		want(t, e, text, f, s, api.OK)
	}
}

// P7.2: texts that are no name's.
func TestTextsOfNoName(t *testing.T) {
	l := []string{"", " ", ":", ".", "//", "//a", "none", "5.1", "0.0", ":5.1", "://a", "a", "\x00", "\xff",
		"dtn", "dtn:", "dtn:/", "dtn://", "dtn:/a", "dtn:a", "dtn:abc", "dtn:0", "dtn:none ", "dtn:none/", "dtn:nonee", "dtn:non", "dtn:None", "dtn:NONE", "dtn: none", " dtn:none", "dtn:none\n", "dtn:none\x00", "dtn:dtn:none", "dtn:dtn://a", "dtn:ipn:5.1", "dtn:5.1", "dtn//a", "dtn:: //a", "dtn:://a",
		"DTN:none", "Dtn:none", "DTN://a", "dtN://a", "dtn1://a", "dtn :none", "IPN:5.1", "Ipn:5.1", "ipN:5.1", "ipn :5.1", "xdtn:none", "xipn:5.1", "http://a", "uri:5.1", "dtm:none", "ipm:5.1", "1:none", "2:5.1",
		"ipn", "ipn:", "ipn:.", "ipn:5", "ipn:5.", "ipn:.1", "ipn:0", "ipn:51", "ipn:5.1.0", "ipn:5.1.", "ipn:.5.1", "ipn:5..1", "ipn:977000.5.1", "ipn:5,1", "ipn:5:1", "ipn:5/1", "ipn:5 1", "ipn5.1", "ipn:ipn:5.1", "ipn:none", "ipn://a", "ipn://5.1", "ipn:a.b", "ipn:5.b", "ipn:a.1",
		"ipn:+5.1", "ipn:5.+1", "ipn:-5.1", "ipn:5.-1", "ipn:-0.0", "ipn:0.-0", "ipn:05.1", "ipn:5.01", "ipn:00.0", "ipn:0.00", "ipn:01.2", "ipn:00.00", "ipn:5.1e3", "ipn:5e0.1", "ipn:0x5.1", "ipn:5.0x1", "ipn:0b1.1", "ipn:0o5.1", "ipn:1_0.1", "ipn:5.1_0", "ipn:ff.1", "ipn:5.1f",
		"ipn:\u0665.1", "ipn:5.\u0661", "ipn:\uff15.1", "ipn:5.\uff11", "ipn:\u00b2.1", "ipn:5.\u2460", "ipn:5\uff0e1", "ipn:\U0001d7d3.1", "ipn:5.1\x00", "ipn:5.1\xff", "ipn:\xff5.1",
		"ipn:5.1 ", "ipn:5.1\n", "ipn:5.1/", "ipn:5.1a", "ipn: 5.1", "ipn:5. 1", "ipn:5 .1", " ipn:5.1", "\tipn:5.1", "\nipn:5.1", "ipn:5.1 ipn:5.1",
		"ipn:18446744073709551616.0", "ipn:0.18446744073709551616", "ipn:18446744073709551616.18446744073709551616", "ipn:18446744073709551620.1", "ipn:28446744073709551615.1", "ipn:1.99999999999999999999", "ipn:184467440737095516150.0", "ipn:0.184467440737095516150", "ipn:018446744073709551615.1", "ipn:36893488147419103237.1", "ipn:" + strings.Repeat("9", 1000) + ".1", "ipn:5." + strings.Repeat("0", 100000), "ipn:" + strings.Repeat("1", 100000)}
	for _, name := range wrongNames() {
		if name != "none" {
			l = append(l, "dtn:"+name, "ipn:"+name)
		}
	}
	for _, name := range rightNames() {
		l = append(l, name, "ipn:"+name, "dtn:dtn:"+name, "dtn: "+name, "dtn:"+name+" ", "Dtn:"+name)
	}
	for _, s := range l {
		e, f := eid.Parse(s)
		want(t, s, e, f, api.Eid{}, api.ErrForm)
	}
}

// P7.2, P7.5: all texts of up to four pieces at which something begins or ends.
func TestTextsOfPieces(t *testing.T) {
	pieces := []string{"dtn:", "ipn:", "none", "/", "//", ".", "0", "1", "9", "-", "+", " ", "a", "DTN:", "ipn", "dtn", ":", "_", "18446744073709551615", "18446744073709551616", "\u00e9", "\xff", "\x00"}
	var grow func(s string, more int)
	grow = func(s string, more int) {
		isParsed(t, s)
		if more > 0 {
			for _, piece := range pieces {
				grow(s+piece, more-1)
			}
		}
	}
	grow("", 4)
	for _, whole := range []string{"dtn:", "ipn:", "dtn://", "ipn:1.", "ipn:0.", "dtn:none"} {
		grow(whole, 3)
	}
}

// P7.2, P7.5: texts with one byte more, one less, or another one, at each place.
func TestTextsWithOneByteElse(t *testing.T) {
	for _, s := range []string{"dtn:none", "dtn://a", "dtn://ab/c", "ipn:5.1", "ipn:0.0", "ipn:10.20", "ipn:18446744073709551615.1", "ipn:1.18446744073709551615", "dtn://" + strings.Repeat("x", 62)} {
		isParsed(t, s)
		for at := range len(s) + 1 {
			for b := range 256 {
				isParsed(t, s[:at]+string([]byte{byte(b)})+s[at:])
				if at < len(s) {
					isParsed(t, s[:at]+string([]byte{byte(b)})+s[at+1:])
				}
			}
			if at < len(s) {
				isParsed(t, s[:at]+s[at+1:])
				isParsed(t, s[:at])
			}
		}
	}
}

// P7.5: Parse of Text is the name, and no two names have one text.
func TestParseOfText(t *testing.T) {
	texts := map[string]api.Eid{}
	for _, e := range names() {
		s, f := eid.Text(e)
		if other, ok := texts[s]; ok || f != api.OK {
			t.Errorf("%+v: %q, %d, as of %+v", e, s, f, other)
		}
		texts[s] = e
		got, f := eid.Parse(s)
		want(t, s, got, f, e, api.OK)
	}
}
