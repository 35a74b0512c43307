package layer

import (
	"bytes"
	"fmt"
	"slices"
	"strings"
	"testing"

	"dunnage/api"
	"dunnage/dir"
)

func wantError(t *testing.T, what string, got, want api.Errno) {
	t.Helper()
	if got != want {
		t.Errorf("%q: error %d, want %d", what, got, want)
	}
}

// row is numbers by a rule, each below a bound; others for each seed.
func row(seed uint32) func(below int) int {
	x := seed*2654435761 + 12345
	return func(below int) int {
		x = x*1664525 + 1013904223
		return int(x>>8) % below
	}
}

// many is a name of so many bytes.
func many(n int) string {
	return strings.Repeat("n", n)
}

// names is names of so many bytes each, with strokes between.
func names(lengths ...int) string {
	var l []string
	for _, n := range lengths {
		l = append(l, many(n))
	}
	return strings.Join(l, "/")
}

// deep is so many names with strokes between.
func deep(n int) string {
	return strings.TrimSuffix(strings.Repeat("d/", n), "/")
}

func same(a, b []api.Change) bool {
	return slices.EqualFunc(a, b, func(x, y api.Change) bool {
		return x.Kind == y.Kind && x.Path == y.Path && x.Node.Name == y.Node.Name && x.Node.Kind == y.Node.Kind &&
			x.Node.Mode == y.Node.Mode && x.Node.Link == y.Node.Link && bytes.Equal(x.Node.Data, y.Node.Data)
	})
}

// brief is changes as a failed test tells them.
func brief(l ...api.Change) string {
	var b strings.Builder
	for _, c := range l {
		fmt.Fprintf(&b, "[%d of %q, %q: kind %d, mode %d, link %q, %d bytes]", c.Kind, c.Path, c.Node.Name, c.Node.Kind, c.Node.Mode, c.Node.Link, len(c.Node.Data))
	}
	return b.String()
}

func file(name string, data string) api.Entry {
	return api.Entry{Name: name, Kind: api.File, Mode: 420, Data: []byte(data)}
}

func directory(name string) api.Entry {
	return api.Entry{Name: name, Kind: api.Dir, Mode: 493}
}

func hard(name, link string) api.Entry {
	return api.Entry{Name: name, Kind: api.Hard, Mode: 420, Link: link}
}

func link(name, target string) api.Entry {
	return api.Entry{Name: name, Kind: api.Link, Mode: 511, Link: target}
}

// putAt is the change of an entry that is to be at a path.
func putAt(path string, e api.Entry) api.Change {
	e.Name = path
	return api.Change{Kind: api.Put, Path: path, Node: e}
}

// right are entries with their changes.
func right() ([]api.Entry, []api.Change) {
	pairs := []struct {
		e api.Entry
		c api.Change
	}{
		{file("./a//b/", "hi"), putAt("/a/b", file("", "hi"))},
		{directory("d/"), putAt("/d", directory(""))},
		{file("d/.wh.x", ""), api.Change{Kind: api.Whiteout, Path: "/d/x"}},
		{link("l", "../x//./"), putAt("/l", link("", "../x//./"))},
		{hard("h", "./a//b/."), putAt("/h", hard("", "/a/b"))},
		{file("d/.wh..wh..opq", ""), api.Change{Kind: api.Opaque, Path: "/d"}},
		{directory("."), putAt("/", directory(""))},
		{file("long", many(2000)), putAt("/long", file("", many(2000)))},
		{file(".wh..wh..opq", ""), api.Change{Kind: api.Opaque, Path: "/"}},
	}
	var entries []api.Entry
	var changes []api.Change
	for _, p := range pairs {
		entries, changes = append(entries, p.e), append(changes, p.c)
	}
	return entries, changes
}

func wantClean(t *testing.T, name, want string) {
	t.Helper()
	if got, e := Clean(name); got != want || e != api.OK {
		t.Errorf("%q: %q, error %d, want %q", name, got, e, want)
	}
	if again, e := Clean(want); again != want || e != api.OK {
		t.Errorf("%q, cleaned again: %q, error %d", want, again, e)
	}
}

func wantNotClean(t *testing.T, name string) {
	t.Helper()
	if got, e := Clean(name); got != "" || e != api.ErrName {
		t.Errorf("%q: %q, error %d, want none", name, got, e)
	}
}

// P13.1: the chapter's examples, and the edges of names
func TestClean(t *testing.T) {
	for name, want := range map[string]string{
		"./a//b/": "/a/b", "": "/", "/": "/", ".": "/", "./": "/", "/.": "/", "//": "/", "/./": "/", "./.": "/", "././/.": "/",
		"a": "/a", "/a": "/a", "a/": "/a", "/a/": "/a", "//a//": "/a", "./a/.": "/a", "a/b": "/a/b", "a/./b": "/a/b", "a/./././b": "/a/b",
		"a///b": "/a/b", "...": "/...", ".a": "/.a", "a.": "/a.", "..a": "/..a", "a..": "/a..", " ": "/ ", "a b": "/a b", "\xff/\x01": "/\xff/\x01",
		".wh.a": "/.wh.a", "a/.wh..wh..opq": "/a/.wh..wh..opq", "\\a": "/\\a",
		strings.Repeat("/", 5000) + "a" + strings.Repeat("/.", 5000): "/a",
	} {
		wantClean(t, name, want)
	}
	for _, name := range []string{
		"..", "../", "/..", "../a", "a/..", "a/../b", "/../a", "./..", "..//", "a/b/..", "\x00", "a\x00b", "a/\x00", "a\x00/b", ".\x00", "..\x00",
	} {
		wantNotClean(t, name)
	}
}

// P13.1: the limits of names and paths
func TestCleanLimits(t *testing.T) {
	wantClean(t, many(api.MaxName), "/"+many(api.MaxName))
	wantNotClean(t, many(api.MaxName+1))
	wantClean(t, "./a//"+many(api.MaxName)+"/", "/a/"+many(api.MaxName))
	wantNotClean(t, "./a//"+many(api.MaxName+1)+"/")
	wantClean(t, deep(api.MaxDepth), "/"+deep(api.MaxDepth))
	wantNotClean(t, deep(api.MaxDepth+1))
	wantClean(t, "././"+strings.ReplaceAll(deep(api.MaxDepth), "/", "//./")+"/.", "/"+deep(api.MaxDepth))
	wantNotClean(t, "././"+strings.ReplaceAll(deep(api.MaxDepth+1), "/", "//./")+"/.")
	longest := names(59, 59, 59, 59, 14)
	if len(longest) != api.MaxPath-1 {
		t.Fatal("not the longest one")
	}
	for _, name := range []string{longest, "/" + longest, "./" + longest + "//", strings.ReplaceAll(longest, "/", "/.//")} {
		wantClean(t, name, "/"+longest)
		wantNotClean(t, name+"n")
		wantNotClean(t, "n"+name+"/.n")
	}
	wantNotClean(t, longest+"n")
	wantNotClean(t, longest+"/n")
}

// cleanByTheWords is a second Clean.
func cleanByTheWords(name string) (string, api.Errno) {
	path, parts := "", 0
	for len(name) > 0 {
		end := 0
		for end < len(name) && name[end] != '/' {
			end++
		}
		part := name[:end]
		name = name[min(end+1, len(name)):]
		switch {
		case part == "" || part == ".":
			continue
		case part == ".." || len(part) > 59 || bytes.ContainsRune([]byte(part), 0):
			return "", api.ErrName
		}
		path += "/" + part
		parts++
	}
	if parts == 0 {
		path = "/"
	}
	if parts > 16 || len(path) > 255 {
		return "", api.ErrName
	}
	return path, api.OK
}

// nameByARule is a name of a tar: few bytes of few kinds, or long parts.
func nameByARule(next func(int) int) string {
	if next(4) > 0 {
		b := make([]byte, next(14))
		for i := range b {
			b[i] = "////.....aaab\x00"[next(14)]
		}
		return string(b)
	}
	name := ""
	for range 1 + next(20) {
		name += strings.Repeat("x", next(2)*next(62)+next(4)) + []string{"/", "//", "/./"}[next(3)]
	}
	return name
}

// P13.1 to P13.3: names by a rule, held against a second Clean; what is cleaned is a path, and cleaned again the same
func TestCleanAgainstTheWords(t *testing.T) {
	next := row(1)
	seen := map[api.Errno]int{}
	for range 60000 {
		name := nameByARule(next)
		want, err := cleanByTheWords(name)
		got, e := Clean(name)
		if got != want || e != err {
			t.Fatalf("%q: %q, error %d, want %q, %d", name, got, e, want, err)
		}
		seen[e]++
		if e != api.OK {
			continue
		}
		if again, e := Clean(got); again != got || e != api.OK {
			t.Fatalf("%q, cleaned again: %q, error %d", got, again, e)
		}
		if _, e := dir.Split(got); e != api.OK {
			t.Fatalf("%q is no path", got)
		}
	}
	if seen[api.OK] < 10000 || seen[api.ErrName] < 10000 {
		t.Errorf("errors: %v", seen)
	}
}
