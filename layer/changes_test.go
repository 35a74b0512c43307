package layer

import (
	"math"
	"slices"
	"strings"
	"testing"

	"dunnage/api"
	"dunnage/dir"
	"dunnage/tarfmt"
)

// wantChange: an entry has a change, by itself and among others.
func wantChange(t *testing.T, e api.Entry, want api.Change) {
	t.Helper()
	entries, changes := right()
	for at := range len(entries) + 1 {
		got, err, wrong := Changes(slices.Insert(slices.Clone(entries), at, e)...)
		if !same(got, slices.Insert(slices.Clone(changes), at, want)) || err != api.OK || wrong != 0 {
			t.Fatalf("%q at %d: %s, error %d, %d; want %s", e.Name, at, brief(got...), err, wrong, brief(want))
		}
	}
	if got, err, wrong := Changes(e); !same(got, []api.Change{want}) || err != api.OK || wrong != 0 {
		t.Errorf("%q: %s, error %d, %d; want %s", e.Name, brief(got...), err, wrong, brief(want))
	}
}

// wantNone: an entry has no change; its number is told, where others stand around it.
func wantNone(t *testing.T, what string, e api.Entry) {
	t.Helper()
	entries, _ := right()
	for at := range len(entries) + 1 {
		got, err, wrong := Changes(slices.Insert(slices.Clone(entries), at, e)...)
		if len(got) != 0 || err != api.ErrLayer || wrong != at {
			t.Fatalf("%s, %q at %d: %s, error %d, %d", what, e.Name, at, brief(got...), err, wrong)
		}
	}
	if got, err, wrong := Changes(e); len(got) != 0 || err != api.ErrLayer || wrong != 0 {
		t.Errorf("%s, %q: %s, error %d, %d", what, e.Name, brief(got...), err, wrong)
	}
}

func gone(path string) api.Change {
	return api.Change{Kind: api.Whiteout, Path: path}
}

func opaque(path string) api.Change {
	return api.Change{Kind: api.Opaque, Path: path}
}

// P13.1, P13.4: what entries of each kind come to
func TestChanges(t *testing.T) {
	entries, changes := right()
	got, e, wrong := Changes(entries...)
	if !same(got, changes) || e != api.OK || wrong != 0 {
		t.Errorf("%s, error %d, %d", brief(got...), e, wrong)
	}
	if got, e, wrong := Changes(); len(got) != 0 || e != api.OK || wrong != 0 {
		t.Errorf("of none: %s, error %d, %d", brief(got...), e, wrong)
	}
	for i, e := range entries {
		wantChange(t, e, changes[i])
	}
}

// P13.1: whiteouts
func TestWhiteouts(t *testing.T) {
	for name, path := range map[string]string{
		".wh.x": "/x", "a/.wh.x": "/a/x", "/a/b/.wh.x": "/a/b/x", "./.wh.x/": "/x", "a//.wh.x/.": "/a/x", ".wh.wh.": "/wh.",
		".wh..x": "/.x", ".wh....": "/...", ".wh..wh": "/.wh", ".wh. ": "/ ", ".wh.\xff": "/\xff", ".wh..opq": "/.opq", ".wh.a.wh.b": "/a.wh.b",
		".wh." + many(55): "/" + many(55), deep(15) + "/.wh.d": "/" + deep(16),
	} {
		wantChange(t, file(name, ""), gone(path))
		wantChange(t, api.Entry{Name: name, Kind: api.File, Mode: 4095, Data: []byte{}}, gone(path))
		wantNone(t, "with Data", file(name, "x"))
		wantNone(t, "no File", directory(name))
		wantNone(t, "no File", link(name, "x"))
		wantNone(t, "no File", hard(name, "x"))
	}
	for _, name := range []string{
		".wh.", "a/.wh.", "a/.wh./", ".wh..", ".wh...", "a/.wh..", ".wh..wh.", ".wh..wh.x", "a/.wh..wh.x", ".wh..wh..op", ".wh..wh..opq2", ".wh..wh..opq.",
		".wh..wh..wh.x", ".wh..wh..wh..opq", ".wh." + many(56), deep(16) + "/.wh.d", ".wh.x/..", "../.wh.x",
	} {
		for _, e := range []api.Entry{file(name, ""), file(name, "x"), directory(name), link(name, "x"), hard(name, "x")} {
			wantNone(t, "no whiteout", e)
		}
	}
}

// P13.1: opaques
func TestOpaques(t *testing.T) {
	for name, path := range map[string]string{
		".wh..wh..opq": "/", "/.wh..wh..opq": "/", ".//.wh..wh..opq/": "/", "a/.wh..wh..opq": "/a", "a/./b//.wh..wh..opq/.": "/a/b", deep(15) + "/.wh..wh..opq": "/" + deep(15),
	} {
		wantChange(t, file(name, ""), opaque(path))
		wantChange(t, api.Entry{Name: name, Kind: api.File, Data: []byte{}}, opaque(path))
		wantNone(t, "with Data", file(name, "\x00"))
		wantNone(t, "no File", directory(name))
		wantNone(t, "no File", link(name, "x"))
		wantNone(t, "no File", hard(name, "x"))
	}
	wantNone(t, "too deep", file(deep(16)+"/.wh..wh..opq", ""))
	wantNone(t, "out of the root", file("../.wh..wh..opq", ""))
}

// P13.1: no other name begins with .wh.
func TestOtherMarkedNames(t *testing.T) {
	for _, name := range []string{
		".wh.a/b", "a/.wh.b/c", ".wh./a", ".wh..wh..opq/a", "a/.wh..wh..opq/b", ".wh.a/.wh.b", ".wh.a/.wh..wh..opq", ".wh..wh..opq/.wh..wh..opq", ".//.wh.a/b/c",
		deep(14) + "/.wh.a/d",
	} {
		for _, e := range []api.Entry{file(name, ""), file(name, "x"), directory(name), link(name, "x"), hard(name, "x")} {
			wantNone(t, "a marked name ahead", e)
		}
	}
	for _, name := range []string{".wh", ".wha", "wh.a", "a.wh.b", ".WH.a", " .wh.a", "..wh.a", ".wh/a", "a.wh..wh..opq", ".w/h.a"} {
		for _, e := range []api.Entry{file(name, "x"), directory(name), link(name, "x"), hard(name, "/x")} {
			wantChange(t, e, putAt("/"+name, e))
		}
	}
}

// P13.1: the root
func TestRoot(t *testing.T) {
	for _, name := range []string{"/", ".", "./", "//", "/./.", strings.Repeat("/", 100)} {
		e := api.Entry{Name: name, Kind: api.Dir, Mode: 448}
		wantChange(t, e, putAt("/", e))
		wantNone(t, "the root", file(name, ""))
		wantNone(t, "the root", link(name, "a"))
		wantNone(t, "the root", hard(name, "a"))
	}
	wantNone(t, "no name", directory(""))
}

// P13.1: a Hard's Link is cleaned, and is not the root; a Link's is left as it is.
func TestLinks(t *testing.T) {
	longest := names(59, 40)
	for name, path := range map[string]string{
		"a": "/a", "/a": "/a", "./a//b/": "/a/b", "a/./b": "/a/b", "h": "/h", longest: "/" + longest, deep(16): "/" + deep(16), many(59): "/" + many(59), "d/.wh": "/d/.wh",
	} {
		wantChange(t, hard("x/h", name), putAt("/x/h", hard("", path)))
		wantChange(t, link("x/l", name), putAt("/x/l", link("", name)))
	}
	for _, name := range []string{"/", ".", "./", "//", "..", "../a", "a/..", "a/../b", many(60), deep(17)} {
		wantNone(t, "a link that leads nowhere", hard("h", name))
		wantChange(t, link("l", name), putAt("/l", link("", name)))
	}
	for _, name := range []string{"", "\x00", "a\x00", longest + "n"} {
		wantNone(t, "no link of a tar", hard("h", name))
		wantNone(t, "no link of a tar", link("l", name))
	}
}

// P13.1: what tarfmt.Right refuses, and what can't be cleaned
func TestNoEntries(t *testing.T) {
	for _, k := range []api.Kind{math.MinInt, -1, api.NoKind, 5, math.MaxInt} {
		for _, name := range []string{"a", ".wh.a", "d/.wh..wh..opq", "/"} {
			wantNone(t, "no kind", api.Entry{Name: name, Kind: k})
		}
	}
	for _, e := range []api.Entry{file("f", "x"), directory("d"), link("l", "x"), hard("h", "/x"), file(".wh.x", ""), file(".wh..wh..opq", "")} {
		for _, m := range []int{0, 4095} {
			e.Mode = m
			if l, err, _ := Changes(e); err != api.OK || l[0].Node.Mode != m && l[0].Kind == api.Put {
				t.Errorf("%q of the mode %d: %s, error %d", e.Name, m, brief(l...), err)
			}
		}
		for _, m := range []int{-1, 4096, math.MinInt, math.MaxInt} {
			e.Mode = m
			wantNone(t, "no mode", e)
		}
	}
	for _, name := range []string{"", "..", "../a", "a/../b", "a\x00", "\x00", many(60), many(101), deep(17)} {
		for _, e := range []api.Entry{file(name, "x"), directory(name), link(name, "x"), hard(name, "x")} {
			wantNone(t, "no name", e)
		}
	}
	wantNone(t, "a File with a Link", api.Entry{Name: "a", Kind: api.File, Link: "b"})
	wantNone(t, "a whiteout with a Link", api.Entry{Name: ".wh.a", Kind: api.File, Link: "b"})
	wantNone(t, "a Dir with a Link", api.Entry{Name: "a", Kind: api.Dir, Link: "b"})
	for _, e := range []api.Entry{directory("a"), link("a", "b"), hard("a", "b"), directory("/")} {
		e.Data = []byte{0}
		wantNone(t, "Data of no File", e)
	}
	most := file("a", many(api.MaxFile))
	wantChange(t, most, putAt("/a", most))
	wantNone(t, "too long a File", file("a", many(api.MaxFile+1)))
}

// P13.1: long names: what can be cleaned may be too long for a tar, or may not be parted there, and the other way round.
func TestLongNames(t *testing.T) {
	parted, unparted := names(59, 59, 33, 59, 40), names(59, 59, 59, 59, 14)
	for _, name := range []string{parted, "/" + parted} {
		wantChange(t, file(name, "x"), putAt("/"+parted, file("", "x")))
		wantClean(t, name, "/"+parted)
	}
	wantNone(t, "a path of 256 bytes", file(parted+"n", "x"))
	wantNone(t, "a name of 256 bytes", file(parted+"//", "x"))
	wantNone(t, "a name that can't be parted", file(unparted, "x"))
	wantClean(t, unparted, "/"+unparted)
	wantNone(t, "a name of 256 bytes", directory(strings.Repeat("/", 255)+"a"))
	wantChange(t, directory(strings.Repeat("/", 254)+"a"), putAt("/a", directory("")))
	ahead := names(59, 59, 33, 59)
	wantChange(t, file(ahead+"/.wh."+many(36), ""), gone("/"+ahead+"/"+many(36)))
	wantNone(t, "a path of 256 bytes", file(ahead+"/.wh."+many(37), ""))
	wantChange(t, file(ahead+"/"+many(27)+"/.wh..wh..opq", ""), opaque("/"+ahead+"/"+many(27)))
	wantNone(t, "a path of 256 bytes", file(ahead+"/"+many(28)+"/.wh..wh..opq", ""))
}

// P13.1: of several wrong entries the first one is told.
func TestFirstWrongOne(t *testing.T) {
	wrong := []api.Entry{file("..", ""), directory(".wh.x"), {}, hard("h", "/"), file("/", ""), file("a", many(api.MaxFile+1))}
	fine, _ := right()
	for i := range wrong {
		for n := range len(fine) {
			l := slices.Concat(fine[:n], wrong[i:], fine[n:])
			if got, e, at := Changes(l...); len(got) != 0 || e != api.ErrLayer || at != n {
				t.Errorf("%d changes, error %d, %d, want %d", len(got), e, at, n)
			}
		}
	}
}

func tarOf(t *testing.T, l ...api.Entry) []byte {
	t.Helper()
	b, e := tarfmt.Print(l...)
	wantError(t, "Print", e, api.OK)
	return b
}

func wantNoLayer(t *testing.T, what string, b []byte) {
	t.Helper()
	if l, e := Read(b); len(l) != 0 || e != api.ErrLayer {
		t.Errorf("%s: %s, error %d", what, brief(l...), e)
	}
}

// P13.1: Read of tars, and of bytes that are none
func TestRead(t *testing.T) {
	entries, changes := right()
	b := tarOf(t, entries...)
	if l, e := Read(b); !same(l, changes) || e != api.OK {
		t.Errorf("%s, error %d", brief(l...), e)
	}
	if l, e := Read(append(b, make([]byte, 1024)...)); !same(l, changes) || e != api.OK {
		t.Errorf("with more noughts: %s, error %d", brief(l...), e)
	}
	if l, e := Read(make([]byte, 1024)); len(l) != 0 || e != api.OK {
		t.Errorf("of none: %s, error %d", brief(l...), e)
	}
	for i, e := range entries {
		if l, err := Read(tarOf(t, e)); !same(l, changes[i:i+1]) || err != api.OK {
			t.Errorf("%q: %s, error %d", e.Name, brief(l...), err)
		}
	}
	for n := 0; n < len(b); n += 64 {
		wantNoLayer(t, "cut short", b[:n])
	}
	wantNoLayer(t, "nil", nil)
	wantNoLayer(t, "too long", make([]byte, api.MaxTar+1))
	wantNoLayer(t, "a wrong sum", append([]byte("x"), b[1:]...))
	wantNoLayer(t, "something behind it", append(b, b...))
	for _, e := range []api.Entry{file("..", ""), directory(".wh.x"), hard("h", "/"), file("/", ""), file(".wh.x", "x"), file(".wh.a/b", "")} {
		wantNoLayer(t, e.Name, tarOf(t, e))
		wantNoLayer(t, e.Name, tarOf(t, append(slices.Clone(entries), e)...))
	}
}

// changeByTheWords is the change of an entry by the chapter's words; of the kind NoChange, if there is none.
func changeByTheWords(e api.Entry) api.Change {
	path, err := cleanByTheWords(e.Name)
	if err != api.OK || tarfmt.Right(e) != api.OK {
		return api.Change{}
	}
	names := strings.Split(path, "/")[1:]
	ahead, last := strings.Join(names[:len(names)-1], "/"), names[len(names)-1]
	if strings.Contains("/"+ahead, "/.wh.") {
		return api.Change{}
	}
	if ahead != "" {
		ahead = "/" + ahead
	}
	if strings.HasPrefix(last, ".wh.") && (e.Kind != api.File || len(e.Data) > 0) {
		return api.Change{}
	}
	switch more := strings.Replace(last, ".wh.", "", 1); {
	case last == ".wh..wh..opq" && ahead == "":
		return opaque("/")
	case last == ".wh..wh..opq":
		return opaque(ahead)
	case strings.HasPrefix(last, ".wh.") && (more == "" || more == "." || more == ".." || strings.HasPrefix(more, ".wh.")):
		return api.Change{}
	case strings.HasPrefix(last, ".wh."):
		return gone(ahead + "/" + more)
	}
	if path == "/" && e.Kind != api.Dir {
		return api.Change{}
	}
	if e.Kind == api.Hard {
		e.Link, err = cleanByTheWords(e.Link)
		if err != api.OK || e.Link == "/" {
			return api.Change{}
		}
	}
	return putAt(path, e)
}

// entryByARule is an entry with names that matter, or such as nearly do.
func entryByARule(next func(int) int) api.Entry {
	parts := []string{"a", "bc", ".wh.x", ".wh..wh..opq", ".wh.", ".wh", ".", "..", "", "...", ".wh..", ".wh..wh.x", ".whx", many(59), ".wh." + many(55)}
	name := func(longest int) string {
		s := ""
		for range 1 + next(longest) {
			k := next(3 * len(parts))
			if k >= len(parts) {
				k %= 2
			}
			s += parts[k] + strings.Repeat("/", next(3))
		}
		return s
	}
	e := api.Entry{Name: name(4), Kind: api.Kind(1 + next(4)), Mode: next(4096)}
	if next(3) == 0 {
		e.Kind = api.File
		e.Name = strings.Repeat("a/", next(3)) + parts[2+next(4)]
	}
	if e.Kind == api.Link || e.Kind == api.Hard || next(20) == 0 {
		e.Link = name(3)
	}
	if e.Kind == api.File && next(3) == 0 || next(20) == 0 {
		e.Data = []byte("data")
	}
	if next(20) == 0 {
		e.Mode += 4000
	}
	return e
}

// P13.1, P13.2, P13.4: lists by a rule, held against the changes by the chapter's words
func TestChangesAgainstTheWords(t *testing.T) {
	next := row(2)
	seen := map[api.ChangeKind]int{}
	for range 40000 {
		var l []api.Entry
		var want []api.Change
		for range next(5) {
			l = append(l, entryByARule(next))
		}
		wrong := 0
		for at, e := range l {
			c := changeByTheWords(e)
			seen[c.Kind]++
			if wrong = at; c.Kind == api.NoChange {
				break
			}
			want = append(want, c)
		}
		got, e, at := Changes(l...)
		if len(want) == len(l) && (!same(got, want) || e != api.OK || at != 0) || len(want) < len(l) && (len(got) != 0 || e != api.ErrLayer || at != wrong) {
			t.Fatalf("%v: %s, error %d, %d; want %s", l, brief(got...), e, at, brief(want...))
		}
		for _, c := range got {
			if _, e := dir.Split(c.Path); e != api.OK || strings.Contains("/"+c.Path+"/", "/../") {
				t.Fatalf("%q leads out of the root", c.Path)
			}
		}
	}
	for k := api.NoChange; k <= api.Opaque; k++ {
		if seen[k] < 1000 {
			t.Errorf("of each kind: %v", seen)
		}
	}
}
