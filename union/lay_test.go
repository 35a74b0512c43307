package union

import (
	"bytes"
	"slices"
	"strconv"
	"strings"
	"testing"

	"dunnage/api"
	"dunnage/bcache"
	"dunnage/disk"
	"dunnage/fsck"
	"dunnage/fsys"
)

func made(t *testing.T, pages, inodes int) *fsys.FS {
	t.Helper()
	d, e := disk.New(1 + api.MaxGroup + pages)
	wantError(t, "disk.New", e, api.OK)
	f, e := fsys.Make(d, api.MaxGroup, inodes)
	if f == nil || e != api.OK {
		t.Fatalf("Make: error %d", e)
	}
	return f
}

// ground is a committed file system of so many pages and inodes with a directory in a directory, a file and a link.
func ground(t *testing.T, pages, inodes int) *fsys.FS {
	t.Helper()
	f := made(t, pages, inodes)
	wantError(t, "Mkdir", f.Mkdir("/d", 448), api.OK)
	wantError(t, "Mkdir", f.Mkdir("/d/e", 493), api.OK)
	wantError(t, "Write", f.Write("/f", 420, 'f'), api.OK)
	wantError(t, "Symlink", f.Symlink("/l", "/d"), api.OK)
	commit(t, f)
	return f
}

func groundNodes() []api.Node {
	return []api.Node{directory("/d", 448), directory("/d/e", 493), file("/f", 420, "f"), link("/l", "/d")}
}

func commit(t *testing.T, f *fsys.FS) {
	t.Helper()
	wantError(t, "Commit", f.Commit(), api.OK)
}

func cacheOf(f *fsys.FS) *bcache.Cache {
	return f.Inodes().Map().Cache()
}

func pages(f *fsys.FS) [][]byte {
	var all [][]byte
	for n := range cacheOf(f).Log().Pages() {
		b, _ := cacheOf(f).Read(n)
		all = append(all, b)
	}
	return all
}

// wantStill: nothing changes, and nothing that waits for a Commit is kept or forgotten.
func wantStill(t *testing.T, what string, f *fsys.FS, call func()) {
	t.Helper()
	was, dirty, ops := pages(f), cacheOf(f).Dirty(), f.Disk().Ops()
	call()
	if !slices.EqualFunc(was, pages(f), bytes.Equal) || !slices.Equal(dirty, cacheOf(f).Dirty()) || ops != f.Disk().Ops() {
		t.Errorf("%s: something has changed", what)
	}
}

// seen are the nodes below a path, asked for one by one.
func seen(t *testing.T, f *fsys.FS, path string) []api.Node {
	t.Helper()
	var tree []api.Node
	names, e := f.List(path)
	wantError(t, "List", e, api.OK)
	path = strings.TrimSuffix(path, "/")
	for _, name := range names {
		at := path + "/" + name
		s, e := f.Stat(at)
		wantError(t, "Stat", e, api.OK)
		n := api.Node{Path: at, Kind: s.Kind, Mode: s.Mode}
		n.Data, _ = f.Read(at)
		n.Link, _ = f.Target(at)
		tree = append(tree, n)
		if n.Kind == api.Dir {
			tree = append(tree, seen(t, f, at)...)
		}
	}
	return tree
}

// below is nodes with a path ahead of each.
func below(path string, tree []api.Node) []api.Node {
	tree = slices.Clone(tree)
	for i := range tree {
		tree[i].Path = path + tree[i].Path
	}
	return tree
}

// wantLaid: a directory of the mode 493 has just these nodes; and all is sound.
func wantLaid(t *testing.T, what string, f *fsys.FS, path string, tree []api.Node) {
	t.Helper()
	if s, e := f.Stat(path); e != api.OK || s.Kind != api.Dir || s.Mode != 493 {
		t.Errorf("%s: %+v, error %d", what, s, e)
	}
	if got := seen(t, f, path); !same(got, below(path, tree)) {
		t.Errorf("%s: %s, want %s", what, brief(got), brief(below(path, tree)))
	}
	if _, e := fsck.Check(f.Inodes()); e != api.OK {
		t.Errorf("%s: not sound: error %d", what, e)
	}
	wantTold(t, what, f, path, tree...)
}

// wantTold: Tree tells these nodes, and Export the same ones as entries.
func wantTold(t *testing.T, what string, f *fsys.FS, path string, want ...api.Node) {
	t.Helper()
	wantStill(t, what, f, func() {
		got, e := Tree(f, path)
		if e != api.OK || !same(got, want) {
			t.Errorf("%s: Tree of %s: %s, error %d, want %s", what, path, brief(got), e, brief(want))
		}
		l, e := Export(f, path)
		if e != api.OK || len(l) != len(want) {
			t.Fatalf("%s: Export of %s: %d entries, error %d, want %d", what, path, len(l), e, len(want))
		}
		for i, n := range want {
			name := n.Path[1:]
			if n.Kind == api.Dir {
				name += "/"
			}
			if x := l[i]; !sameNode(n, api.Node{Path: n.Path, Kind: x.Kind, Mode: x.Mode, Link: x.Link, Data: x.Data}) || x.Name != name {
				t.Errorf("%s: Export of %s: %+v, want %s", what, path, x, brief(want[i:i+1]))
			}
		}
	})
}

func wantNoTree(t *testing.T, what string, f *fsys.FS, path string, want api.Errno) {
	t.Helper()
	if tree, e := Tree(f, path); len(tree) != 0 || e != want {
		t.Errorf("%s: Tree of %q: %s, error %d, want %d", what, path, brief(tree), e, want)
	}
	if l, e := Export(f, path); len(l) != 0 || e != want {
		t.Errorf("%s: Export of %q: %d entries, error %d, want %d", what, path, len(l), e, want)
	}
}

// wantNotLaid: Lay has an error, and nothing changes.
func wantNotLaid(t *testing.T, what string, f *fsys.FS, path string, tree []api.Node, want api.Errno) {
	t.Helper()
	wantStill(t, what, f, func() {
		if e := Lay(f, path, tree); e != want {
			t.Errorf("%s: Lay at %q: error %d, want %d", what, path, e, want)
		}
	})
}

// P14.2, P14.3: a tree is laid out as a new directory, which has just its nodes; nothing else changes, and nothing is committed.
func TestLay(t *testing.T) {
	f := ground(t, 240, 96)
	ops := f.Disk().Ops()
	for _, path := range []string{"/r", "/d/r", "/d/e/r", "/" + many(59), "/.wh.a", "/d/e/\xff "} {
		wantError(t, path, Lay(f, path, planted()), api.OK)
		wantLaid(t, "planted", f, path, planted())
	}
	wantError(t, "no nodes", Lay(f, "/none", nil), api.OK)
	wantLaid(t, "no nodes", f, "/none", nil)
	if f.Disk().Ops() != ops {
		t.Error("something was committed")
	}
	for _, path := range []string{"/d/r", "/d/e", "/r", "/" + many(59), "/.wh.a", "/none"} {
		wantError(t, "Remove", f.Remove(path), api.OK)
	}
	wantError(t, "Mkdir", f.Mkdir("/d/e", 493), api.OK)
	if got := seen(t, f, "/"); !same(got, groundNodes()) {
		t.Errorf("what was there: %s", brief(got))
	}
	wantError(t, "Lay", Lay(f, "/r", planted()), api.OK)
	wantError(t, "Abort", f.Abort(), api.OK)
	if got := seen(t, f, "/"); !same(got, groundNodes()) {
		t.Errorf("Abort: %s", brief(got))
	}
}

// P14.2, P14.3: nodes at the edges: the longest file, no bytes, each mode's ends, links of 1 and of MaxPath bytes of any kind
func TestLayEdges(t *testing.T) {
	tree := []api.Node{
		directory("/a", 0), directory("/b", 4095), file("/c", 0, ""), file("/d", 4095, "\x00"), file("/e", 1, many(511)), file("/f", 2, many(512)), file("/g", 4, many(513)),
		file("/h", 8, many(5121)), link("/i", "x"), link("/j", many(api.MaxPath)), link("/k", "\x00//..\xff"),
	}
	f := made(t, 400, 64)
	wantError(t, "Lay", Lay(f, "/r", tree), api.OK)
	wantLaid(t, "the edges", f, "/r", tree)
	f = made(t, 400, 64)
	long := []api.Node{file("/a", 1, many(40000))}
	wantError(t, "Lay", Lay(f, "/r", long), api.OK)
	wantLaid(t, "a long file", f, "/r", long)
}

// P14.2: as many nodes as there may be
func TestLayMostNodes(t *testing.T) {
	f := made(t, 700, 512)
	tree := numbered("", api.MaxEntries)
	for i := range tree {
		tree[i].Data = nil
	}
	wantError(t, "Lay", Lay(f, "/r", tree), api.OK)
	wantLaid(t, "as many as there may be", f, "/r", tree)
	wantNotLaid(t, "one more", f, "/s", numbered("", api.MaxEntries+1), api.ErrForm)
}

// P1, P2, P14.2: the errors ahead of the first step, in their order
func TestLayErrors(t *testing.T) {
	f := ground(t, 240, 64)
	wantError(t, "Mkdir", f.Mkdir("/waits", 493), api.OK)
	noTree := []api.Node{file("/a/b", 0, "")}
	tooDeep := down(api.MaxDepth)
	for _, tree := range [][]api.Node{nil, planted(), noTree, tooDeep} {
		for _, path := range []string{"/r", "/f", "", "/", "/none/r"} {
			wantError(t, "nil", Lay(nil, path, tree), api.ErrNil)
		}
	}
	for _, path := range []string{"/r", "/f", "", "/", "/none/r", "/d"} {
		wantNotLaid(t, "no tree", f, path, noTree, api.ErrForm)
		wantNotLaid(t, "the root", f, path, []api.Node{directory("/", 493)}, api.ErrForm)
	}
	for path, want := range map[string]api.Errno{
		"": api.ErrName, "r": api.ErrName, "/r/": api.ErrName, "//r": api.ErrName, "/..": api.ErrName, "/r\x00": api.ErrName, "/" + many(60): api.ErrName, deep(17): api.ErrName,
		"/": api.ErrKnown, "/d": api.ErrKnown, "/f": api.ErrKnown, "/l": api.ErrKnown, "/d/e": api.ErrKnown,
		"/none/r": api.ErrNone, "/d/none/r": api.ErrNone, "/none/none/r": api.ErrNone, "/f/r": api.ErrDir, "/l/r": api.ErrDir, "/f/none/r": api.ErrDir,
	} {
		for _, tree := range [][]api.Node{nil, planted(), tooDeep} {
			wantNotLaid(t, "Mkdir's error", f, path, tree, want)
		}
	}
	wantNotLaid(t, "a node's path that is none", f, "/r", tooDeep, api.ErrName)
}

// P14.2: a node's path behind the path has at most MaxDepth names and MaxPath bytes; else nothing changes.
func TestLayPathsThatAreNone(t *testing.T) {
	for n := 1; n < api.MaxDepth; n++ {
		f := ground(t, 240, 64)
		at := ""
		for range n - 1 {
			at += "/s"
			wantError(t, "Mkdir", f.Mkdir(at, 493), api.OK)
		}
		wantNotLaid(t, "one name too many", f, at+"/r", down(api.MaxDepth-n+1), api.ErrName)
		wantNotLaid(t, "one name too many, in the last node", f, at+"/r", append([]api.Node{file("/a", 0, "")}, down(api.MaxDepth-n+1)...), api.ErrName)
		if _, e := f.Stat(at + "/r"); e != api.ErrNone {
			t.Errorf("it is there: error %d", e)
		}
		wantError(t, "as many names as there may be", Lay(f, at+"/r", down(api.MaxDepth-n)), api.OK)
		wantLaid(t, "as many names as there may be", f, at+"/r", down(api.MaxDepth-n))
	}
	f := ground(t, 240, 64)
	tree := []api.Node{directory(pathOf(59), 493), directory(pathOf(59, 59), 493), directory(pathOf(59, 59, 59), 493), file(pathOf(59, 59, 59, 59), 0, "x")}
	wantNotLaid(t, "one byte too many", f, "/"+many(15), tree, api.ErrName)
	wantError(t, "as many bytes as there may be", Lay(f, "/"+many(14), tree), api.OK)
	wantLaid(t, "as many bytes as there may be", f, "/"+many(14), tree)
	commit(t, f)
	wantNotLaid(t, "behind a Commit", f, "/"+many(16), tree, api.ErrName)
}

// P1, P14.2: Tree's and Export's errors
func TestTreeErrors(t *testing.T) {
	f := ground(t, 240, 64)
	for _, path := range []string{"", "/", "/d", "/f", "/none"} {
		wantNoTree(t, "nil", nil, path, api.ErrNil)
	}
	for path, want := range map[string]api.Errno{
		"": api.ErrName, "d": api.ErrName, "/d/": api.ErrName, "/..": api.ErrName, "/d\x00": api.ErrName, deep(17): api.ErrName,
		"/none": api.ErrNone, "/d/none": api.ErrNone, "/none/d": api.ErrNone, "/f/d": api.ErrDir, "/l/e": api.ErrDir, "/f": api.ErrDir, "/l": api.ErrDir,
	} {
		wantNoTree(t, "Walk's error", f, path, want)
	}
	wantTold(t, "an empty one", f, "/d/e")
	wantTold(t, "the root", f, "/", groundNodes()...)
	wantTold(t, "a directory of it", f, "/d", directory("/e", 493))
}

// P14.2: a file's names are files each, and so are a link's links.
func TestTreeOfTwoNames(t *testing.T) {
	f := ground(t, 240, 64)
	for _, path := range []string{"/d/g", "/d/e/h"} {
		wantError(t, "Link", f.Link("/f", path), api.OK)
	}
	wantError(t, "Link", f.Link("/l", "/d/m"), api.OK)
	wantTold(t, "two names", f, "/d", directory("/e", 493), file("/e/h", 420, "f"), file("/g", 420, "f"), link("/m", "/d"))
	wantTold(t, "three names", f, "/", directory("/d", 448), directory("/d/e", 493), file("/d/e/h", 420, "f"), file("/d/g", 420, "f"), link("/d/m", "/d"), file("/f", 420, "f"), link("/l", "/d"))
	tree, e := Tree(f, "/d")
	wantError(t, "Tree", e, api.OK)
	wantError(t, "Lay", Lay(f, "/r", tree), api.OK)
	if s, _ := f.Stat("/r/g"); s.Links != 1 {
		t.Errorf("laid out as one file: %d links", s.Links)
	}
}

// P14.2: names are told in the tree's order, which is not that of the paths' bytes.
func TestTreeInOrder(t *testing.T) {
	f := ground(t, 240, 64)
	for _, path := range []string{"/d/e.", "/d/e/x", "/d/e-", "/d/e0", "/d/\x01", "/d/e/\xff", "/d/E"} {
		wantError(t, "Write", f.Write(path, 420), api.OK)
	}
	tree, e := Tree(f, "/d")
	if e != api.OK || !rightByTheWords(tree) || len(tree) != 8 {
		t.Errorf("%s, error %d", brief(tree), e)
	}
}

// P14.2: MaxEntries nodes, and one more
func TestTreeMostNodes(t *testing.T) {
	f := ground(t, 400, 64)
	var tree []api.Node
	for k := range api.MaxEntries - 1 {
		path := "/" + strconv.Itoa(1000+k)
		wantError(t, "Link", f.Link("/f", "/d"+path), api.OK)
		tree = append(tree, file(path, 420, "f"))
	}
	tree = append(tree, directory("/e", 493))
	wantTold(t, "as many as there may be", f, "/d", tree...)
	wantError(t, "Link", f.Link("/f", "/d/e/g"), api.OK)
	wantNoTree(t, "one more", f, "/d", api.ErrLong)
	wantNoTree(t, "four more", f, "/", api.ErrLong)
	wantTold(t, "below them", f, "/d/e", file("/g", 420, "f"))
	wantError(t, "Unlink", f.Unlink("/d/1000"), api.OK)
	wantTold(t, "one less", f, "/d", append(tree[1:], file("/e/g", 420, "f"))...)
}

// P14.2: what Rename took further down than a path goes is told too, with its bytes.
func TestTreeOfWhatLiesDeep(t *testing.T) {
	f := made(t, 240, 64)
	for n := range 10 {
		for _, top := range []string{"/s", "/t"} {
			wantError(t, "Mkdir", f.Mkdir(top+deep(n), 493), api.OK)
		}
	}
	wantError(t, "Write", f.Write("/t"+deep(9)+"/f", 420, 'f'), api.OK)
	wantError(t, "Symlink", f.Symlink("/t"+deep(9)+"/l", "target"), api.OK)
	want := append(down(9), file(deep(9)+"/f", 420, "f"), link(deep(9)+"/l", "target"))
	wantTold(t, "ahead of it", f, "/t", want...)
	wantError(t, "Rename", f.Rename("/t", "/s"+deep(9)+"/t"), api.OK)
	wantTold(t, "as if the path were the root", f, "/s"+deep(9)+"/t", want...)
	tree := append(down(9), directory(deep(9)+"/t", 493))
	wantTold(t, "from further up", f, "/s", append(tree, below(deep(9)+"/t", want)...)...)
}
