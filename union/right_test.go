package union

import (
	"cmp"
	"math"
	"slices"
	"strconv"
	"strings"
	"testing"

	"dunnage/api"
)

func wantRight(t *testing.T, what string, want bool, tree ...api.Node) {
	t.Helper()
	if Right(tree) != want {
		t.Errorf("%s: %v", what, !want)
	}
	e := api.OK
	if !want {
		e = api.ErrForm
	}
	if _, got := Apply(tree, nil); got != e {
		t.Errorf("%s: Apply: error %d, want %d", what, got, e)
	}
}

// P14.1: trees
func TestRight(t *testing.T) {
	wantRight(t, "no nodes", true)
	wantRight(t, "each kind", true, planted()...)
	for n := range planted() {
		wantRight(t, "the first ones of them", true, planted()[:n]...)
	}
	wantRight(t, "the deepest one", true, down(api.MaxDepth)...)
	wantRight(t, "one too deep", false, append(down(api.MaxDepth), directory(deep(api.MaxDepth+1), 493))...)
}

// P14.1: rising name by name, byte by byte, a directory ahead of what is in it, none twice
func TestOrder(t *testing.T) {
	rising := []api.Node{
		file("/\x01", 0, ""), file("/ ", 0, ""), directory("/a", 0), file("/a/b", 0, ""), file("/a/bb", 0, ""), file("/a/c", 0, ""),
		directory("/a\x01", 0), file("/a\x01/a", 0, ""), file("/a ", 0, ""), file("/a-", 0, ""), directory("/a.b", 0), file("/a.b/a", 0, ""), file("/a0", 0, ""),
		directory("/aa", 0), directory("/aa/a", 0), file("/aa/a/z", 0, ""), file("/aa/a-", 0, ""), file("/b", 0, ""), file("/\x80", 0, ""), file("/\xff", 0, ""),
	}
	wantRight(t, "rising", true, rising...)
	for i := range rising {
		twice := slices.Insert(slices.Clone(rising), i, rising[i])
		wantRight(t, "one that stands twice", false, twice...)
		for k := range i {
			swapped := slices.Clone(rising)
			swapped[i], swapped[k] = swapped[k], swapped[i]
			wantRight(t, "two that do not rise", false, swapped...)
		}
	}
	wantRight(t, "a file ahead of its directory", false, file("/a/b", 0, ""), directory("/a", 0))
	wantRight(t, "a path twice, of two kinds", false, directory("/a", 0), file("/a", 0, ""))
}

// P14.1: parents
func TestParents(t *testing.T) {
	wantRight(t, "no parent", false, file("/a/b", 0, ""))
	wantRight(t, "no parent's parent", false, directory("/a/b", 0), file("/a/b/c", 0, ""))
	wantRight(t, "a parent left out", false, directory("/a", 0), file("/a/b/c", 0, ""))
	wantRight(t, "another one's parent", false, directory("/a", 0), file("/ab/c", 0, ""))
	wantRight(t, "below a file", false, file("/a", 0, ""), file("/a/b", 0, ""))
	wantRight(t, "below a link", false, link("/a", "/"), file("/a/b", 0, ""))
	wantRight(t, "below a file below", false, directory("/a", 0), file("/a/b", 0, ""), file("/a/b/c", 0, ""))
	wantRight(t, "below a directory", true, directory("/a", 0), directory("/a/b", 0), file("/a/b/c", 0, ""))
}

// P14.1: paths
func TestPaths(t *testing.T) {
	for _, path := range []string{"", "/", "a", "a/b", "/a/", "//a", "//", "/.", "/..", "/a\x00", "/" + many(60), "/./a", " /a"} {
		wantRight(t, path, false, file(path, 0, ""))
		wantRight(t, path, false, directory(path, 493))
		wantRight(t, path, false, file("/0", 0, ""), file(path, 0, ""))
	}
	for _, path := range []string{"/a", "/.a", "/...", "/ ", "/\xff", "/.wh.a", "/" + many(59)} {
		wantRight(t, path, true, file(path, 0, ""))
		wantRight(t, path, true, directory(path, 493))
	}
	var tree []api.Node
	for _, path := range []string{pathOf(59), pathOf(59, 59), pathOf(59, 59, 59), pathOf(59, 59, 59, 59)} {
		tree = append(tree, directory(path, 493))
	}
	wantRight(t, "MaxPath bytes", true, append(tree, file(pathOf(59, 59, 59, 59, 14), 0, ""))...)
	wantRight(t, "one more", false, append(tree, file(pathOf(59, 59, 59, 59, 15), 0, ""))...)
}

// P14.1: kinds, modes, links, data
func TestNodes(t *testing.T) {
	for _, k := range []api.Kind{math.MinInt, -1, api.NoKind, api.Hard, 5, math.MaxInt} {
		wantRight(t, "no kind", false, api.Node{Path: "/a", Kind: k, Mode: 420})
		wantRight(t, "no kind", false, api.Node{Path: "/a", Kind: k, Mode: 511, Link: "b"})
	}
	for mode, right := range map[int]bool{math.MinInt: false, -1: false, 0: true, 1: true, 420: true, 511: true, 4095: true, 4096: false, math.MaxInt: false} {
		wantRight(t, "a file's mode", right, file("/a", mode, "x"))
		wantRight(t, "a directory's mode", right, directory("/a", mode))
		wantRight(t, "a link's mode", mode == 511, api.Node{Path: "/a", Kind: api.Link, Mode: mode, Link: "b"})
	}
	for n, right := range map[int]bool{0: false, 1: true, 100: true, 101: true, api.MaxPath: true, api.MaxPath + 1: false} {
		wantRight(t, "a link's bytes", right, link("/a", many(n)))
	}
	wantRight(t, "a link of any bytes", true, link("/a", "\x00//..\xff"))
	for n, right := range map[int]bool{0: true, 1: true, api.MaxFile: true, api.MaxFile + 1: false} {
		wantRight(t, "a file's bytes", right, file("/a", 420, many(n)))
	}
	for _, n := range []api.Node{directory("/a", 493), link("/a", "b")} {
		n.Data = []byte{}
		wantRight(t, "no bytes", true, n)
		n.Data = []byte{0}
		wantRight(t, "bytes of no file", false, n)
	}
	for _, n := range []api.Node{directory("/a", 493), file("/a", 420, "x"), file("/a", 511, "")} {
		n.Link = "b"
		wantRight(t, "a link of none", false, n)
	}
}

// numbered is so many files in the root, or below a directory of it.
func numbered(ahead string, n int) []api.Node {
	var tree []api.Node
	for k := range n {
		tree = append(tree, file(ahead+"/"+strconv.Itoa(1000+k), 420, strconv.Itoa(k)))
	}
	return tree
}

// P14.1: MaxEntries
func TestMostNodes(t *testing.T) {
	for n, right := range map[int]bool{api.MaxEntries - 1: true, api.MaxEntries: true, api.MaxEntries + 1: false, 2 * api.MaxEntries: false} {
		wantRight(t, "so many", right, numbered("", n)...)
		wantRight(t, "so many below", right, append([]api.Node{directory("/d", 493)}, numbered("/d", n-1)...)...)
	}
}

// isPathByTheWords is a second look at paths but the root.
func isPathByTheWords(path string) bool {
	names := strings.Split(path, "/")
	if names[0] != "" || len(names) < 2 || len(names) > 17 || len(path) > 255 {
		return false
	}
	return !slices.ContainsFunc(names[1:], func(name string) bool {
		return name == "" || name == "." || name == ".." || len(name) > 59 || strings.Contains(name, "\x00")
	})
}

// rightByTheWords is a second Right.
func rightByTheWords(tree []api.Node) bool {
	if len(tree) > 256 {
		return false
	}
	for i, n := range tree {
		linked, filed := n.Kind == api.Link, n.Kind == api.File
		if !isPathByTheWords(n.Path) || !linked && !filed && n.Kind != api.Dir || n.Mode < 0 || n.Mode > 4095 || linked && n.Mode != 511 {
			return false
		}
		if linked != (n.Link != "") || len(n.Link) > 255 || !filed && len(n.Data) != 0 || len(n.Data) > 70656 {
			return false
		}
		names := strings.Split(n.Path, "/")
		parent := strings.Join(names[:len(names)-1], "/")
		isParent := func(x api.Node) bool { return x.Path == parent && x.Kind == api.Dir }
		if parent != "" && !slices.ContainsFunc(tree, isParent) {
			return false
		}
		// the byte 0, which no name has, is less than all others: so is a name that ends
		if i > 0 && cmp.Compare(strings.ReplaceAll(tree[i-1].Path, "/", "\x00"), strings.ReplaceAll(n.Path, "/", "\x00")) >= 0 {
			return false
		}
	}
	return true
}

// treeByARule is a tree of at most so many nodes.
func treeByARule(next func(int) int, most int) []api.Node {
	names := []string{"a", "b", "a-", "a.", "\xff", "b\x01", "long " + many(20)}
	all := map[string]api.Node{}
	directories := []string{""}
	for range next(most + 1) {
		path := directories[next(len(directories))] + "/" + names[next(len(names))]
		if _, ok := all[path]; ok || !isPathByTheWords(path) {
			continue
		}
		switch next(4) {
		case 0:
			all[path] = file(path, next(4096), many(next(3)*next(300)))
		case 1:
			all[path] = link(path, many(1+next(100)))
		default:
			all[path] = directory(path, next(4096))
			directories = append(directories, path)
		}
	}
	var tree []api.Node
	for _, n := range all {
		tree = append(tree, n)
	}
	slices.SortFunc(tree, func(a, b api.Node) int {
		return strings.Compare(strings.ReplaceAll(a.Path, "/", "\x00"), strings.ReplaceAll(b.Path, "/", "\x00"))
	})
	return tree
}

// spoil changes something of a tree; it may be one still.
func spoil(next func(int) int, tree []api.Node) []api.Node {
	at, other := next(len(tree)), next(len(tree))
	switch next(9) {
	case 0:
		tree[at], tree[other] = tree[other], tree[at]
	case 1:
		return slices.Insert(tree, at, tree[other])
	case 2, 3:
		return slices.Delete(tree, at, at+1)
	case 4:
		tree[at].Kind = api.Kind(next(5))
	case 5:
		tree[at].Mode = next(6000) - 500
	case 6:
		tree[at].Link = many(next(2) * next(300))
	case 7:
		tree[at].Data = []byte(many(next(2) * next(10)))
	case 8:
		tree[at].Path = tree[other].Path + []string{"/", "/a", "0", "/..", "/" + many(59), "/" + many(60)}[next(6)]
	}
	return tree
}

// P14.1: trees by a rule, spoilt here and there, held against a second Right
func TestRightAgainstTheWords(t *testing.T) {
	next := row(1)
	seen := map[bool]int{}
	for range 20000 {
		tree := treeByARule(next, 12)
		if !Right(tree) {
			t.Fatalf("no tree: %s", brief(tree))
		}
		for range next(3) {
			if len(tree) > 0 {
				tree = spoil(next, tree)
			}
		}
		want := rightByTheWords(tree)
		if Right(tree) != want {
			t.Fatalf("%v: %s", !want, brief(tree))
		}
		seen[want]++
	}
	if seen[true] < 4000 || seen[false] < 4000 {
		t.Errorf("right and not: %v", seen)
	}
}
