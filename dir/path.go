package dir

import (
	"strings"

	"dunnage/api"
)

// IsName tells whether a text is a name.
func IsName(s string) bool {
	if len(s) < 1 || len(s) > api.MaxName || s == "." || s == ".." {
		return false
	}
	return !strings.ContainsAny(s, "\x00/")
}

// Split are a path's names.
func Split(path string) ([]string, api.Errno) {
	rest, ok := strings.CutPrefix(path, "/")
	if !ok || len(path) > api.MaxPath {
		return nil, api.ErrName
	}
	if rest == "" {
		return nil, api.OK
	}
	names := strings.Split(rest, "/")
	if _, e := Join(names...); e != api.OK {
		return nil, e
	}
	return names, api.OK
}

// Join is the path of names.
func Join(names ...string) (string, api.Errno) {
	if len(names) > api.MaxDepth {
		return "", api.ErrName
	}
	for _, name := range names {
		if !IsName(name) {
			return "", api.ErrName
		}
	}
	path := "/" + strings.Join(names, "/")
	if len(path) > api.MaxPath {
		return "", api.ErrName
	}
	return path, api.OK
}
