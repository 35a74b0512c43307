package tarfmt

import (
	"strings"

	"dunnage/api"
)

// The bytes that a header has room for.
const (
	mostName   = 100
	mostPrefix = 155
	mostLink   = 100
)

// part is a name as a header has it; false, if it can't be parted.
func part(name string) (prefix, rest string, ok bool) {
	if len(name) <= mostName {
		return "", name, true
	}
	for at := min(len(name)-2, mostPrefix); at >= 1 && len(name)-at-1 <= mostName; at-- {
		if name[at] == '/' {
			return name[:at], name[at+1:], true
		}
	}
	return "", "", false
}

func isName(s string) bool {
	if !isText(s, api.MaxTarName) {
		return false
	}
	_, _, ok := part(s)
	return ok
}

// isLink tells whether an entry of that kind may have that link.
func isLink(k api.Kind, link string) bool {
	if k == api.Link || k == api.Hard {
		return isText(link, mostLink)
	}
	return link == ""
}

// isText tells whether a text has 1 to most bytes, none of them 0.
func isText(s string, most int) bool {
	return len(s) >= 1 && len(s) <= most && strings.IndexByte(s, 0) < 0
}
