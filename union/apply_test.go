package union

import (
	"slices"
	"strconv"
	"testing"

	"dunnage/api"
)

// P14.1: whiteouts
func TestWhiteouts(t *testing.T) {
	wantApplied(t, "a file", changes(gone("/a/f")), without("/a/f")...)
	wantApplied(t, "an empty directory", changes(gone("/c")), without("/c")...)
	wantApplied(t, "a link", changes(gone("/d")), without("/d")...)
	wantApplied(t, "a directory, with all below", changes(gone("/a")), without("/a", "/a/f", "/a/g", "/a/g/h", "/a/g/l")...)
	wantApplied(t, "one below", changes(gone("/a/g")), without("/a/g", "/a/g/h", "/a/g/l")...)
	wantApplied(t, "two", changes(gone("/a/g/h"), gone("/b")), without("/a/g/h", "/b")...)
	wantApplied(t, "one twice", changes(gone("/b"), gone("/b")), without("/b")...)
	wantApplied(t, "one above another one", changes(gone("/a"), gone("/a/f")), without("/a", "/a/f", "/a/g", "/a/g/h", "/a/g/l")...)
	for _, path := range []string{"/x", "/a/x", "/x/y", "/b/x", "/d/x", "/a/f/x", "/A", "/a/g/h/l"} {
		wantApplied(t, "what is not there", changes(gone(path)), planted()...)
		wantTree(t, "of no nodes", nil, changes(gone(path)))
	}
}

// P14.1: opaques
func TestOpaques(t *testing.T) {
	wantApplied(t, "a directory", changes(opaque("/a")), without("/a/f", "/a/g", "/a/g/h", "/a/g/l")...)
	wantApplied(t, "one below", changes(opaque("/a/g")), without("/a/g/h", "/a/g/l")...)
	wantApplied(t, "the root", changes(opaque("/")))
	wantApplied(t, "the root, and more", changes(opaque("/"), opaque("/a"), gone("/b")))
	for _, path := range []string{"/a-b", "/c", "/b", "/d", "/x", "/a/x", "/a/f", "/x/y"} {
		wantApplied(t, "what has nothing below", changes(opaque(path)), planted()...)
	}
	wantTree(t, "of no nodes", nil, changes(opaque("/")))
}

// P14.1: whiteouts and opaques go ahead of puts, whatever their order in the layer.
func TestTakenAwayFirst(t *testing.T) {
	l := changes(gone("/a"), opaque("/"), putFile("/a/f", "new"), putDir("/e", 448))
	want := []api.Node{directory("/a", 493), file("/a/f", 420, "new"), directory("/e", 448)}
	for i := range l { // the puts in their order, the others anywhere
		for k := range l {
			m := slices.Insert(slices.Clone(l[2:]), min(i, 2), l[0])
			wantApplied(t, "in any order", slices.Insert(m, min(k, 3), l[1]), want...)
		}
	}
	wantApplied(t, "one of what is put", changes(putFile("/x", ""), gone("/x")), append(planted(), file("/x", 420, ""))...)
	wantApplied(t, "one that makes room", changes(putFile("/b/x", "1"), gone("/b")),
		slices.Insert(without("/b"), 6, directory("/b", 493), file("/b/x", 420, "1"))...)
	wantApplied(t, "what a Hard would lead to", changes(gone("/a/g"), putFile("/a/g/h", "new"), putHard("/x", "/a/g/h")),
		append(slices.Insert(without("/a/g", "/a/g/h", "/a/g/l"), 2, directory("/a/g", 493), file("/a/g/h", 420, "new")), file("/x", 420, "new"))...)
}

// P14.1: directories ahead that are not there are made, of the mode 493.
func TestDirectoriesAhead(t *testing.T) {
	for _, n := range []api.Node{file("/x/y/z", 384, "1"), link("/x/y/z", "a"), directory("/x/y/z", 448)} {
		wantApplied(t, "two ahead", changes(put(n)), append(planted(), directory("/x", 493), directory("/x/y", 493), n)...)
		wantTree(t, "on no nodes", nil, changes(put(n)), directory("/x", 493), directory("/x/y", 493), n)
	}
	wantApplied(t, "one ahead that is there", changes(putFile("/a/z/y", "1")), slices.Insert(planted(), 5, directory("/a/z", 493), file("/a/z/y", 420, "1"))...)
	wantApplied(t, "a mode that stays", changes(putFile("/c/x", "")), slices.Insert(planted(), 8, file("/c/x", 420, ""))...)
	wantTree(t, "a mode behind it", nil, changes(putFile("/x/y", ""), putDir("/x", 448)), directory("/x", 448), file("/x/y", 420, ""))
	wantTree(t, "a mode ahead of it", nil, changes(putDir("/x", 448), putFile("/x/y", "")), directory("/x", 448), file("/x/y", 420, ""))
	tree := down(api.MaxDepth)
	wantTree(t, "the deepest one", nil, changes(putDir(deep(api.MaxDepth), 493)), tree...)
	wantTree(t, "a Hard", []api.Node{file("/f", 1, "one")}, changes(putHard("/x/y", "/f")), file("/f", 1, "one"), directory("/x", 493), file("/x/y", 1, "one"))
}

// P14.1: one ahead that is no Dir
func TestNoDirectoryAhead(t *testing.T) {
	for _, path := range []string{"/b/x", "/d/x", "/a/f/x", "/a/g/h/x/y", "/a/g/l/x", "/b/x/y/z"} {
		for _, c := range []api.Change{putFile(path, "1"), putDir(path, 493), putLink(path, "a"), putHard(path, "/a/f")} {
			wantRefused(t, path, planted(), changes(c), api.ErrLayer)
			wantRefused(t, path, planted(), changes(putFile("/x", ""), c, putFile("/y", "")), api.ErrLayer)
		}
	}
	wantRefused(t, "of the same layer", nil, changes(putFile("/x", ""), putFile("/x/y", "")), api.ErrLayer)
	wantRefused(t, "of the same layer", nil, changes(putLink("/x", "/"), putDir("/x/y", 493)), api.ErrLayer)
	wantApplied(t, "one that was taken away", changes(putFile("/b/x", ""), gone("/b")), slices.Insert(without("/b"), 6, directory("/b", 493), file("/b/x", 420, ""))...)
	wantTree(t, "one that was put anew", nil, changes(putFile("/x", ""), putDir("/x", 1), putFile("/x/y", "")), directory("/x", 1), file("/x/y", 420, ""))
}

// P14.1: hard links
func TestHards(t *testing.T) {
	wantApplied(t, "to a file", changes(putHard("/x", "/a/f")), append(planted(), file("/x", 420, "one"))...)
	wantApplied(t, "to an empty one", changes(putHard("/x", "/b")), append(planted(), file("/x", 0, ""))...)
	wantApplied(t, "to one below", changes(putHard("/a/x", "/a/g/h")), slices.Insert(planted(), 5, file("/a/x", 384, "two"))...)
	wantApplied(t, "to itself", changes(putHard("/a/f", "/a/f")), planted()...)
	for _, old := range []string{"/x", "/a", "/c", "/d", "/a/g/l", "/a/f/x", "/y", "/a/g", "/b/x"} {
		wantRefused(t, old, planted(), changes(putHard("/x", old)), api.ErrLayer)
		wantRefused(t, old, planted(), changes(putFile("/z", ""), putHard("/x/y", old)), api.ErrLayer)
	}
	wantRefused(t, "to one that is taken away", planted(), changes(putHard("/x", "/b"), gone("/b")), api.ErrLayer)
	wantRefused(t, "to one that is taken away", planted(), changes(putHard("/x", "/a/f"), opaque("/a")), api.ErrLayer)
	wantRefused(t, "to a directory that it makes itself", nil, changes(putHard("/x/y", "/x")), api.ErrLayer)
	wantTree(t, "put ahead of it", nil, changes(putFile("/f", "1"), putHard("/h", "/f")), file("/f", 420, "1"), file("/h", 420, "1"))
	wantRefused(t, "put behind it", nil, changes(putHard("/h", "/f"), putFile("/f", "1")), api.ErrLayer)
	wantTree(t, "put anew behind it", nil, changes(putFile("/f", "1"), putHard("/h", "/f"), putFile("/f", "2")), file("/f", 420, "2"), file("/h", 420, "1"))
	wantTree(t, "put anew ahead of it", nil, changes(putFile("/f", "1"), putFile("/f", "2"), putHard("/h", "/f")), file("/f", 420, "2"), file("/h", 420, "2"))
	wantTree(t, "to a Hard", nil, changes(putFile("/f", "1"), putHard("/h", "/f"), putHard("/i", "/h")), file("/f", 420, "1"), file("/h", 420, "1"), file("/i", 420, "1"))
	wantRefused(t, "to a file that is none any more", planted(), changes(putDir("/b", 493), putHard("/x", "/b")), api.ErrLayer)
	wantApplied(t, "over a file", changes(putHard("/b", "/a/f")), slices.Insert(without("/b"), 6, file("/b", 420, "one"))...)
	wantApplied(t, "over a link", changes(putHard("/d", "/a/f")), append(without("/d"), file("/d", 420, "one"))...)
	wantApplied(t, "over a directory that the file is in", changes(putHard("/a", "/a/g/h")), file("/a", 384, "two"), planted()[5], planted()[6], planted()[7], planted()[8])
}

// P14.1: a Dir where a Dir is has the new mode, and keeps what is below; nothing else keeps anything.
func TestPutOverWhatIsThere(t *testing.T) {
	tree := planted()
	tree[0].Mode = 7
	wantApplied(t, "a Dir over a Dir", changes(putDir("/a", 7)), tree...)
	for _, n := range []api.Node{file("/a", 1, "new"), link("/a", "new")} {
		wantApplied(t, "over a directory with nodes below", changes(put(n)), append([]api.Node{n}, planted()[5:]...)...)
	}
	for _, n := range []api.Node{file("/a/g", 1, "new"), link("/a/g", "new")} {
		wantApplied(t, "over one below", changes(put(n)), append([]api.Node{planted()[0], planted()[1], n}, planted()[5:]...)...)
	}
	for _, n := range []api.Node{file("/b", 1, "new"), link("/b", "new"), directory("/b", 7)} {
		wantApplied(t, "over a file", changes(put(n)), slices.Insert(without("/b"), 6, n)...)
	}
	for _, n := range []api.Node{file("/d", 1, "new"), link("/d", "new"), directory("/d", 7)} {
		wantApplied(t, "over a link", changes(put(n)), append(without("/d"), n)...)
	}
	for _, n := range []api.Node{file("/c", 1, "new"), link("/c", "new"), directory("/c", 7)} {
		wantApplied(t, "over an empty directory", changes(put(n)), slices.Insert(without("/c"), 7, n)...)
	}
	wantApplied(t, "a Dir that was a File for a while", changes(putFile("/a", ""), putDir("/a", 448)), append([]api.Node{directory("/a", 448)}, planted()[5:]...)...)
	wantApplied(t, "the root", changes(putDir("/", 7)), planted()...)
	wantTree(t, "the root alone", nil, changes(putDir("/", 7), putDir("/", 0)))
}

// P14.1: a Link's mode is 511, whatever the entry says; a Hard's is the file's.
func TestModes(t *testing.T) {
	for _, mode := range []int{0, 420, 511, 4095} {
		c := putLink("/l", "x")
		c.Node.Mode = mode
		wantTree(t, "a link", nil, changes(c), link("/l", "x"))
		c = putHard("/h", "/f")
		c.Node.Mode = mode
		wantTree(t, "a hard link", []api.Node{file("/f", 7, "x")}, changes(c), file("/f", 7, "x"), file("/h", 7, "x"))
		wantTree(t, "a file", nil, changes(put(file("/f", mode, "x"))), file("/f", mode, "x"))
		wantTree(t, "a directory", nil, changes(putDir("/d", mode)), directory("/d", mode))
	}
}

// P14.1, P14.5: the answer is in order, whatever the order of the puts.
func TestInOrder(t *testing.T) {
	next := row(2)
	for range 300 {
		tree := treeByARule(next, 30)
		var l []api.Change
		for _, n := range tree {
			l = slices.Insert(l, next(len(l)+1), put(n))
		}
		wantTree(t, "in any order", nil, l, tree...)
	}
}

// putAll is puts of so many files.
func putAll(ahead string, n int) []api.Change {
	var l []api.Change
	for _, n := range numbered(ahead, n) {
		l = append(l, put(n))
	}
	return l
}

// P14.1: more than MaxEntries nodes, at any time
func TestMostNodesAtAnyTime(t *testing.T) {
	full := numbered("", api.MaxEntries)
	wantTree(t, "just as many", nil, putAll("", api.MaxEntries), full...)
	wantRefused(t, "one more", nil, putAll("", api.MaxEntries+1), api.ErrLong)
	wantRefused(t, "one more than there may be", full, changes(putFile("/x", "")), api.ErrLong)
	wantTree(t, "one anew", full, changes(put(file("/1000", 7, "x"))), slices.Concat([]api.Node{file("/1000", 7, "x")}, full[1:])...)
	wantTree(t, "a directory anew", full, changes(putDir("/1000", 7)), slices.Concat([]api.Node{directory("/1000", 7)}, full[1:])...)
	wantTree(t, "the root", full, changes(putDir("/", 7)), full...)
	wantTree(t, "one taken away behind it", full, changes(putFile("/x", ""), gone("/1000")), slices.Concat(full[1:], []api.Node{file("/x", 420, "")})...)
	wantRefused(t, "a directory made ahead", full, changes(putFile("/x/y", ""), gone("/1000")), api.ErrLong)
	for n := range 8 {
		tree := numbered("", api.MaxEntries-n)
		if n < 7 {
			wantRefused(t, "seven nodes by one put", tree, changes(putDir(deep(7), 493)), api.ErrLong)
			continue
		}
		wantTree(t, "seven nodes by one put", tree, changes(putDir(deep(7), 493)), append(tree, down(7)...)...)
	}
	wide := append([]api.Node{directory("/d", 493)}, numbered("/d", api.MaxEntries-1)...)
	wantTree(t, "over all of them", wide, changes(putFile("/d", ""), putFile("/x", "")), file("/d", 420, ""), file("/x", 420, ""))
	wantRefused(t, "over all of them, too late", wide, changes(putFile("/x", ""), putFile("/d", "")), api.ErrLong)
	wantRefused(t, "for a while", nil, slices.Concat(putAll("/d", api.MaxEntries), changes(putFile("/d", ""))), api.ErrLong)
	wantTree(t, "for a while just as many", nil, slices.Concat(putAll("/d", api.MaxEntries-1), changes(putFile("/d", ""))), file("/d", 420, ""))
	wantTree(t, "taken away first", wide, slices.Concat(putAll("", api.MaxEntries-1), changes(opaque("/d"))), append(numbered("", api.MaxEntries-1), directory("/d", 493))...)
}

// P2, P14.1: ErrForm, then ErrLayer, then ErrLong, whatever comes first in the layer
func TestOrderOfErrors(t *testing.T) {
	noTree := []api.Node{file("/a/b", 0, "")}
	wrong, noLayer := api.Change{}, putHard("/h", "/none")
	long := putAll("", api.MaxEntries+1)
	for _, l := range [][]api.Change{
		{wrong}, {noLayer, wrong}, {wrong, noLayer}, slices.Concat(long, changes(wrong)), slices.Concat(changes(wrong), long), slices.Concat(long, changes(noLayer, wrong)),
	} {
		wantRefused(t, "a change that is none", nil, l, api.ErrForm)
		wantRefused(t, "a change that is none", planted(), l, api.ErrForm)
		wantRefused(t, "no tree", noTree, l, api.ErrForm)
	}
	for _, l := range [][]api.Change{
		{noLayer}, slices.Concat(long, changes(noLayer)), slices.Concat(changes(noLayer), long), slices.Concat(long, changes(putFile("/1000/x", ""))), slices.Concat(long[:200], changes(noLayer), long[200:]),
	} {
		wantRefused(t, "no layer", nil, l, api.ErrLayer)
		wantRefused(t, "no tree", noTree, l, api.ErrForm)
	}
	wantRefused(t, "too long", nil, long, api.ErrLong)
	wantRefused(t, "no tree", noTree, long, api.ErrForm)
	wantRefused(t, "no tree, no changes", noTree, nil, api.ErrForm)
}

func wantNoFold(t *testing.T, what string, want api.Errno, layers ...[]api.Change) {
	t.Helper()
	if tree, e := Fold(layers...); len(tree) != 0 || e != want {
		t.Errorf("%s: %s, error %d, want %d", what, brief(tree), e, want)
	}
}

// P14.1, E6: Fold is Apply of each layer, from no nodes on.
func TestFold(t *testing.T) {
	wantFolded(t, "no layers", nil)
	wantFolded(t, "empty layers", [][]api.Change{nil, {}, nil})
	wantFolded(t, "three layers", [][]api.Change{
		{putFile("/a/f", "1"), putFile("/a/g", "2"), putHard("/h", "/a/f")},
		{gone("/a/f"), putFile("/a/g", "3"), putDir("/c", 448)},
		{opaque("/a"), putLink("/a/l", "x"), putFile("/c/d", "4")},
	}, directory("/a", 493), link("/a/l", "x"), directory("/c", 448), file("/c/d", 420, "4"), file("/h", 420, "1"))
	a, b := changes(putFile("/f", "1")), changes(putFile("/x", "2"), gone("/f"))
	wantFolded(t, "a, b", [][]api.Change{a, b}, file("/x", 420, "2"))
	wantFolded(t, "b, a", [][]api.Change{b, a}, file("/f", 420, "1"), file("/x", 420, "2"))
	wrong, noLayer, long := changes(api.Change{}), changes(putHard("/h", "/none")), putAll("", api.MaxEntries+1)
	wantNoFold(t, "the first one's error", api.ErrLayer, a, noLayer, wrong)
	wantNoFold(t, "the first one's error", api.ErrForm, a, wrong, noLayer)
	wantNoFold(t, "the first one's error", api.ErrLong, long, noLayer, wrong)
	wantNoFold(t, "the last one's error", api.ErrLayer, a, b, noLayer)
	wantNoFold(t, "what an earlier layer took away", api.ErrLayer, a, b, changes(putHard("/h", "/f")))
	wantNoFold(t, "more than MaxEntries in all", api.ErrLong, putAll("", 200), putAll("/d", 56))
	var many [][]api.Change
	for k := range api.MaxEntries {
		many = append(many, changes(putFile("/"+strconv.Itoa(1000+k), strconv.Itoa(k))))
	}
	wantFolded(t, "many layers", many, numbered("", api.MaxEntries)...)
}

// P14.6: a layer that puts nothing and takes nothing away changes nothing; folded twice a layer of puts is as once.
func TestFoldedTwice(t *testing.T) {
	for _, l := range [][]api.Change{nil, {}, {gone("/x")}, {opaque("/c")}, {putDir("/", 7)}, {gone("/b/x"), opaque("/x"), putDir("/", 0)}} {
		wantApplied(t, "nothing", l, planted()...)
	}
	next := row(3)
	errors := 0
	for range 3000 {
		var l []api.Change
		for range 1 + next(8) {
			if c := changeByARule(next); c.Kind == api.Put {
				l = append(l, c)
			}
		}
		once, e := Fold(l)
		twice, err := Fold(l, l)
		if e != api.OK || err == api.ErrLayer && overItsOwn(l) {
			errors++
			continue
		}
		if err != api.OK || !same(once, twice) {
			t.Fatalf("once %s, twice %s, error %d", brief(once), brief(twice), err)
		}
	}
	if errors > 2500 {
		t.Errorf("%d layers that are none", errors)
	}
}

// overItsOwn tells whether a layer puts what is no directory where it went through one before:
// then it is none on what it comes to itself.
func overItsOwn(l []api.Change) bool {
	for i, c := range l {
		for _, x := range l[:i] {
			if c.Node.Kind != api.Dir && len(x.Path) > len(c.Path) && x.Path[:len(c.Path)+1] == c.Path+"/" {
				return true
			}
		}
	}
	return false
}
