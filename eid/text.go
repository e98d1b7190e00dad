package eid

import (
	"strconv"
	"strings"

	"wagtail/api"
)

// How texts begin, and the whole text of nobody's name.
const (
	dtnText  = "dtn:"
	ipnText  = "ipn:"
	noneText = "dtn:none"
)

// Text tells a name's text.
func Text(e api.Eid) (string, api.Errno) {
	switch {
	case !Right(e):
		return "", api.ErrArg
	case e == None():
		return noneText, api.OK
	case e.Scheme == dtn:
		return dtnText + e.Name, api.OK
	}
	return ipnText + digits(e.Node) + "." + digits(e.Service), api.OK
}

// Parse reads a name's text.
func Parse(s string) (api.Eid, api.Errno) {
	name := meant(s)
	// What reads well part by part may still be no name's text: a nought ahead of a number, dtn: with nothing behind it.
	if text, e := Text(name); e != api.OK || text != s {
		return api.Eid{}, api.ErrForm
	}
	return name, api.OK
}

// meant tells the name that a text would have to be the text of; if there is none, one that may not be.
func meant(s string) api.Eid {
	if s == noneText {
		return None()
	}
	if name, ok := strings.CutPrefix(s, dtnText); ok {
		return called(name)
	}
	first, second, _ := strings.Cut(strings.TrimPrefix(s, ipnText), ".")
	node, e := strconv.ParseUint(first, 10, 64)
	service, f := strconv.ParseUint(second, 10, 64)
	if e != nil || f != nil {
		return api.Eid{}
	}
	return numbered(node, service)
}

// digits tells a number's decimal digits.
func digits(n uint64) string {
	return strconv.FormatUint(n, 10)
}
