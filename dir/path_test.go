package dir

import (
	"slices"
	"strings"
	"testing"

	"dunnage/api"
)

// texts yields all texts of at most so many letters of an alphabet.
func texts(alphabet string, most int) func(yield func(string) bool) {
	return func(yield func(string) bool) {
		row := []string{""}
		for at := 0; at < len(row); at++ {
			if !yield(row[at]) {
				return
			}
			for i := range len(alphabet) {
				if len(row[at]) < most {
					row = append(row, row[at]+alphabet[i:i+1])
				}
			}
		}
	}
}

// isName is the word of DOC.md, letter by letter.
func isName(s string) bool {
	for i := range len(s) {
		if s[i] == 0 || s[i] == '/' {
			return false
		}
	}
	return s != "" && s != "." && s != ".." && len(s) < 60
}

// parsed is the word of DOC.md for short texts: a path's names, name by name.
func parsed(path string) ([]string, bool) {
	if path == "/" {
		return nil, true
	}
	var names []string
	for rest := path; rest != ""; {
		if rest[0] != '/' {
			return nil, false
		}
		end := 1
		for end < len(rest) && rest[end] != '/' {
			end++
		}
		if !isName(rest[1:end]) {
			return nil, false
		}
		names, rest = append(names, rest[1:end]), rest[end:]
	}
	return names, path != ""
}

// P7.2 (IsName), DOC.md 'Words'
func TestIsName(t *testing.T) {
	for s := range texts("a./\x00\xff", 4) {
		if got, want := IsName(s), isName(s); got != want {
			t.Errorf("IsName(%q): %v", s, got)
		}
	}
	for n := range 70 {
		if got, want := IsName(strings.Repeat("x", n)), n >= 1 && n <= api.MaxName; got != want {
			t.Errorf("IsName of %d bytes: %v", n, got)
		}
	}
	for _, bad := range []string{"/", "\x00"} {
		for at := range api.MaxName {
			s := strings.Repeat("x", at) + bad + strings.Repeat("x", api.MaxName-1-at)
			if IsName(s) {
				t.Errorf("IsName(%q)", s)
			}
		}
	}
	for b := range 256 {
		s := string([]byte{byte(b)})
		if got, want := IsName(s), b != 0 && b != '/' && b != '.'; got != want {
			t.Errorf("IsName(%q): %v", s, got)
		}
	}
	for _, s := range []string{"...", ".a", "a.", "..a", "a..", " ", "\n", "é", strings.Repeat(".", api.MaxName), strings.Repeat("\xff", api.MaxName)} {
		if !IsName(s) {
			t.Errorf("IsName(%q) is false", s)
		}
	}
	if IsName(strings.Repeat("é", 30)) {
		t.Error("letters are counted, not bytes")
	}
}

// P7.2 (Split), P7.4: all short texts.
func TestSplit(t *testing.T) {
	paths := 0
	for s := range texts("a./\x00", 7) {
		want, ok := parsed(s)
		names, e := Split(s)
		if ok != (e == api.OK) || !ok && e != api.ErrName || !slices.Equal(names, want) {
			t.Errorf("Split(%q): %q, error %d", s, names, e)
		}
		if !ok {
			continue
		}
		paths++
		if path, e := Join(names...); e != api.OK || path != s {
			t.Errorf("Join of Split(%q): %q, error %d", s, path, e)
		}
	}
	if paths < 50 {
		t.Errorf("%d paths", paths)
	}
}

// P7.2: the examples of chapter 7, and the root.
func TestSplitExamples(t *testing.T) {
	names, e := Split("/a/b")
	if e != api.OK || !slices.Equal(names, []string{"a", "b"}) {
		t.Errorf("Split(/a/b): %q, error %d", names, e)
	}
	for _, s := range []string{"a", "/a/", "/./a", "", "//", "//a", "/a//b", "/..", "/a/..", "a/b", "/\x00", "/a\x00", " /a"} {
		if names, e := Split(s); len(names) != 0 || e != api.ErrName {
			t.Errorf("Split(%q): %q, error %d", s, names, e)
		}
	}
	if names, e := Split("/"); len(names) != 0 || e != api.OK {
		t.Errorf("Split(/): %q, error %d", names, e)
	}
}

// named are so many names of so many bytes each.
func named(count, bytes int) []string {
	return slices.Repeat([]string{strings.Repeat("n", bytes)}, count)
}

// DOC.md 'Words', P7.2, P7.4: at most MaxDepth names, at most MaxPath bytes, at most MaxName bytes of a name.
func TestLongestPaths(t *testing.T) {
	x := strings.Repeat("x", api.MaxPath)
	for _, names := range [][]string{
		nil,
		named(1, 1),
		named(1, api.MaxName),
		named(api.MaxDepth, 1),
		append(named(4, api.MaxName), x[:14]), // MaxPath bytes
		append(named(15, 15), x[:14]),         // MaxDepth names and MaxPath bytes
		append([]string{x[:14]}, named(15, 15)...),
		{".a", "a.", "...", "\xff", "a b"},
	} {
		wantPath(t, names, true)
	}
	for _, names := range [][]string{
		named(1, api.MaxName+1),
		named(api.MaxDepth+1, 1),
		append(named(4, api.MaxName), x[:15]), // MaxPath bytes and one more
		append(named(15, 15), x[:15]),
		append([]string{x[:15]}, named(15, 15)...),
		append([]string{x[:60]}, named(2, 1)...),
		append(named(2, 1), x[:60]),
		{"a", x[:60], "b"},
		named(1<<16, 1),
		named(1, 1<<20),
		{""}, {"", "a"}, {"a", ""}, {"a", "", "b"},
		{"/"}, {"/a"}, {"a/"}, {"a/b"},
		{"."}, {".", "a"}, {"a", ".."}, {"a", "..", "b"}, {"a\x00"}, {"a", "\x00", "b"},
	} {
		wantPath(t, names, false)
	}
}

// wantPath: what Join answers, and Split of that path.
func wantPath(t *testing.T, names []string, ok bool) {
	t.Helper()
	whole := "/" + strings.Join(names, "/")
	path, e := Join(names...)
	switch {
	case ok && (e != api.OK || path != whole):
		t.Errorf("Join of %d names, %d bytes: error %d", len(names), len(whole), e)
	case !ok && (e != api.ErrName || path != ""):
		t.Errorf("Join of %d names, %d bytes: %q, error %d", len(names), len(whole), path, e)
	}
	if slices.ContainsFunc(names, func(s string) bool { return s == "" || strings.Contains(s, "/") }) {
		return // the same text may be another list's path
	}
	back, e := Split(whole)
	switch {
	case ok && (e != api.OK || !slices.Equal(back, names)):
		t.Errorf("Split of %d names, %d bytes: error %d", len(names), len(whole), e)
	case !ok && (e != api.ErrName || len(back) != 0):
		t.Errorf("Split of %d names, %d bytes: %q, error %d", len(names), len(whole), back, e)
	}
}

// P7.2 (Join): of no names it is the root.
func TestJoinOfNothing(t *testing.T) {
	for _, names := range [][]string{nil, {}} {
		if path, e := Join(names...); path != "/" || e != api.OK {
			t.Errorf("Join(): %q, error %d", path, e)
		}
	}
	if path, e := Join("a", "b"); path != "/a/b" || e != api.OK {
		t.Errorf("Join(a, b): %q, error %d", path, e)
	}
}

// P3: what is handed in stays as it is, spare room too; what is answered is the caller's.
func TestNamesAreTheCallers(t *testing.T) {
	room := []string{"a", "b", "c", "d"}
	if path, e := Join(room[:2]...); path != "/a/b" || e != api.OK || !slices.Equal(room, []string{"a", "b", "c", "d"}) {
		t.Errorf("Join: %q, %q", path, room)
	}
	first, _ := Split("/a/b")
	clear(first[:cap(first)])
	if again, _ := Split("/a/b"); !slices.Equal(again, []string{"a", "b"}) {
		t.Errorf("Split: %q", again)
	}
}
