package union

import (
	"fmt"
	"math"
	"slices"
	"testing"

	"dunnage/api"
	"dunnage/layer"
)

// wantForm: a change is one that layer.Changes may tell, or it is not, wherever it stands.
func wantForm(t *testing.T, what string, c api.Change, right bool) {
	t.Helper()
	l := changes(putFile("/x", "1"), gone("/x"), putDir("/", 0), opaque("/x"))
	for at := range len(l) + 1 {
		_, e := Apply(nil, slices.Insert(slices.Clone(l), at, c))
		if (e != api.ErrForm) != right {
			t.Errorf("%s, %q at %d: error %d", what, c.Path, at, e)
		}
	}
	if _, e := Fold(l, changes(c)); (e != api.ErrForm) != right {
		t.Errorf("%s, %q, in a second layer: error %d", what, c.Path, e)
	}
}

// each is changes of each kind, of a path.
func each(path string) []api.Change {
	return changes(putFile(path, "x"), putDir(path, 493), putLink(path, "x"), putHard(path, "/x"), gone(path), opaque(path))
}

// P14.1: paths that are none, and the root
func TestChangesPaths(t *testing.T) {
	for _, path := range []string{"", "a", "a/b", "/a/", "//a", "/a//b", "/.", "/..", "/a/..", "/./a", "/a\x00", "/" + many(60), deep(17), " /a", "//"} {
		for _, c := range each(path) {
			wantForm(t, "no path", c, false)
		}
	}
	for _, path := range []string{"/a", "/a/b", "/...", "/.wh", "/a.wh.b", "/\xff/ ", "/" + many(55)} {
		for _, c := range each(path) {
			wantForm(t, "a path", c, true)
		}
	}
	for i, right := range []bool{false, true, false, false, false, true} {
		wantForm(t, "the root", each("/")[i], right)
	}
	for _, path := range []string{"/.wh.a", "/a/.wh.b", "/.wh.a/b", "/.wh.", "/.wh..wh..opq", "/a/.wh..wh..opq", "/.wh..opq/.wh.x", "/.wh..wh.a"} {
		for _, c := range each(path) {
			wantForm(t, "a name that begins with .wh.", c, false)
		}
	}
}

// P14.1: kinds of changes; a change that puts nothing has no Node.
func TestChangesKinds(t *testing.T) {
	for _, k := range []api.ChangeKind{math.MinInt, -1, api.NoChange, 4, 5, math.MaxInt} {
		for _, c := range each("/a") {
			c.Kind = k
			wantForm(t, "no kind", c, false)
		}
	}
	wantForm(t, "nothing", api.Change{}, false)
	for _, c := range []api.Change{gone("/a"), opaque("/a"), opaque("/")} {
		for _, n := range []api.Entry{putFile(c.Path, "x").Node, putDir(c.Path, 493).Node, {Name: c.Path}, {Kind: api.File}, {Mode: 1}, {Link: "a"}, {Data: []byte("a")}} {
			c.Node = n
			wantForm(t, "with a Node", c, false)
		}
		c.Node = api.Entry{Data: []byte{}}
		wantForm(t, "with a Node without anything", c, true)
	}
	wantForm(t, "without a Node", api.Change{Kind: api.Put, Path: "/a"}, false)
}

// P14.1: the Node's Name is the path, and the Node right as a tar's entry.
func TestChangesNodes(t *testing.T) {
	for _, c := range each("/a/b")[:4] {
		for _, name := range []string{"", "a/b", "/a", "/a/b/", "/a/B", "//a/b", "./a/b", "/"} {
			c.Node.Name = name
			wantForm(t, "another name", c, false)
		}
		c.Node.Name = c.Path
		for mode, right := range map[int]bool{math.MinInt: false, -1: false, 0: true, 4095: true, 4096: false, math.MaxInt: false} {
			c.Node.Mode = mode
			wantForm(t, "a mode", c, right)
		}
		c.Node.Mode = 0
		for _, k := range []api.Kind{math.MinInt, -1, api.NoKind, 5, math.MaxInt} {
			d := c
			d.Node.Kind = k
			wantForm(t, "no kind", d, false)
		}
		if c.Node.Kind != api.File {
			c.Node.Data = []byte{0}
			wantForm(t, "Data of no File", c, false)
			c.Node.Data = nil
		}
		if c.Node.Kind == api.File || c.Node.Kind == api.Dir {
			c.Node.Link = "/a"
			wantForm(t, "a Link of none", c, false)
		}
	}
	for n, right := range map[int]bool{0: true, api.MaxFile: true, api.MaxFile + 1: false} {
		wantForm(t, "a File's Data", putFile("/a", many(n)), right)
	}
	for n, right := range map[int]bool{0: false, 1: true, 100: true, 101: false} {
		wantForm(t, "a Link's Link", putLink("/a", many(n)), right)
	}
	wantForm(t, "a Link's Link", putLink("/a", "a\x00"), false)
	wantForm(t, "a Link's Link", putLink("/a", "../..//."), true)
}

// P14.1: a Hard's Link is a path but /.
func TestChangesHards(t *testing.T) {
	for _, old := range []string{"", "/", "a", "a/b", "./a", "/a/", "//a", "/./a", "/..", "/a/../b", "/a\x00", "/" + many(60), deep(17), "//", ".", pathOf(59, 41)} {
		wantForm(t, "no path", putHard("/h", old), false)
	}
	for _, old := range []string{"/a", "/h", "/a/b", "/...", "/" + many(59), deep(16), pathOf(59, 40)} {
		wantForm(t, "a path", putHard("/h", old), true)
	}
	for n, right := range map[int]bool{40: true, 41: false} {
		l, e, _ := layer.Changes(api.Entry{Name: "h", Kind: api.Hard, Link: pathOf(59, n)[1:]})
		if right != (e == api.OK) || right && !isSame(l[0], put(api.Node{Path: "/h", Kind: api.Hard, Link: pathOf(59, n)})) {
			t.Errorf("Changes of a long Link: error %d", e)
		}
	}
}

// P14.1: long paths: whatever layer.Changes tells is one of them, though its path could not stand in a tar.
func TestChangesLongPaths(t *testing.T) {
	parted := pathOf(59, 59, 35, 59, 38) // without the first stroke its prefix has 155 bytes; with it 156
	unparted := pathOf(59, 59, 59, 59, 14)
	for _, c := range each(parted)[:4] {
		wantForm(t, "the longest one", c, true)
	}
	for _, c := range each(unparted)[:4] {
		wantForm(t, "one that can't be parted", c, false)
	}
	if l, e, _ := layer.Changes(api.Entry{Name: parted[1:], Kind: api.Dir}); e != api.OK || l[0].Path != parted {
		t.Errorf("Changes: error %d", e)
	}
	wantForm(t, "a whiteout of 55 bytes", gone("/"+many(55)), true)
	wantForm(t, "a whiteout of 56 bytes", gone("/"+many(56)), false)
	wantForm(t, "a whiteout of the longest path", gone(pathOf(59, 59, 35, 59, 34)), true)
	wantForm(t, "one more", gone(pathOf(59, 59, 35, 59, 35)), false)
	wantForm(t, "the deepest whiteout", gone(deep(16)), true)
	wantForm(t, "the deepest opaque", opaque(deep(15)), true)
	wantForm(t, "one more", opaque(deep(16)), false)
	wantForm(t, "an opaque of the longest path", opaque(pathOf(59, 59, 35, 59, 25)), true)
	wantForm(t, "one more", opaque(pathOf(59, 59, 35, 59, 26)), false)
}

// nodesAt is Nodes that a change of a path may have, and others.
func nodesAt(path string) []api.Entry {
	return []api.Entry{
		{}, {Name: path, Kind: api.File}, {Name: path, Kind: api.File, Data: []byte("x")}, {Name: path, Kind: api.Dir, Mode: 1},
		{Name: path, Kind: api.Link, Link: "x"}, {Name: path, Kind: api.Hard, Link: "x"}, {Name: path, Kind: api.Hard, Link: "/x"}, {Name: path, Kind: api.Hard, Link: "/"},
		{Name: path + "x", Kind: api.File}, {Name: path, Kind: api.File, Mode: 4096}, {Name: path, Kind: api.Hard, Link: ".."},
	}
}

// P14.1: of all changes of short paths just those are right that an entry of a short name has.
func TestJustWhatIsTold(t *testing.T) {
	parts := []string{"", "a", ".opq", ".wh", ".", "..", ".wh.", ".wh.a", ".wh..opq", ".wh..wh", ".wh..", ".wh..wh..opq", ".wh..wh.a"}
	var paths []string
	for _, a := range parts {
		for _, b := range parts {
			for _, c := range parts {
				paths = append(paths, a, a+"/"+b, a+"/"+b+"/"+c)
			}
		}
	}
	told := map[string]int{}
	for _, name := range paths {
		for _, e := range append(nodesAt(name), api.Entry{Name: name + "/.wh..wh..opq", Kind: api.File}) {
			if l, err, _ := layer.Changes(e); err == api.OK {
				told[fmt.Sprintf("%#v", l[0])]++
			}
		}
	}
	seen := map[bool]int{}
	slices.Sort(paths)
	for _, path := range slices.Compact(paths) {
		for _, n := range nodesAt(path) {
			for k := api.NoChange; k <= api.Opaque; k++ {
				c := api.Change{Kind: k, Path: path, Node: n}
				want := told[fmt.Sprintf("%#v", c)] > 0
				if _, e := Apply(nil, changes(c)); (e != api.ErrForm) != want {
					t.Fatalf("%v: error %d; told: %v", c, e, want)
				}
				seen[want]++
			}
		}
	}
	if seen[true] < 30 || seen[false] < 3000 {
		t.Errorf("told and not: %v", seen)
	}
}

// P14.1: whatever layer.Changes tells is no ErrForm: entries by a rule, with names and links about as long as they may be
func TestWhateverIsTold(t *testing.T) {
	next := row(9)
	name := func(most int) string {
		s := []string{"", "/", "./"}[next(3)]
		for len(s) < most-60 {
			s += many(1+next(59)) + "/"
		}
		if next(8) == 0 {
			return s + ".wh..wh..opq"
		}
		return s + []string{"", ".wh."}[next(2)] + many(next(59))
	}
	seen := map[api.ChangeKind]int{}
	for range 60000 {
		e := api.Entry{Name: name(150 + next(120)), Kind: api.Kind(1 + next(4))}
		if next(3) == 0 {
			e.Kind = api.File
		}
		if e.Kind == api.Link || e.Kind == api.Hard {
			e.Link = name(90 + next(20))
		}
		l, err, _ := layer.Changes(e)
		if err != api.OK {
			continue
		}
		seen[l[0].Kind]++
		if _, err := Apply(nil, l); err == api.ErrForm {
			t.Fatalf("%q, link %q: error %d", e.Name, e.Link, err)
		}
	}
	if seen[api.Put] < 1000 || seen[api.Whiteout] < 1000 || seen[api.Opaque] < 100 {
		t.Errorf("of each kind: %v", seen)
	}
}
