package union

import (
	"bytes"
	"fmt"
	"slices"
	"strings"
	"testing"

	"dunnage/api"
	"dunnage/layer"
)

func wantError(t *testing.T, what string, got, want api.Errno) {
	t.Helper()
	if got != want {
		t.Errorf("%s: error %d, want %d", what, got, want)
	}
}

// row is numbers by a rule, each below a bound; others for each seed.
func row(seed uint32) func(below int) int {
	x := seed*2654435761 + 12345
	return func(below int) int {
		x = x*1664525 + 1013904223
		return int(x>>8) % below
	}
}

// many is a name of so many bytes.
func many(n int) string {
	return strings.Repeat("n", n)
}

// pathOf is a path of names of so many bytes each.
func pathOf(lengths ...int) string {
	path := ""
	for _, n := range lengths {
		path += "/" + many(n)
	}
	return path
}

// deep is a path of so many names.
func deep(n int) string {
	return strings.Repeat("/d", n)
}

// down is directories, each one in the one ahead.
func down(n int) []api.Node {
	var tree []api.Node
	for k := range n {
		tree = append(tree, directory(deep(k+1), 493))
	}
	return tree
}

func sameNode(a, b api.Node) bool {
	return a.Path == b.Path && a.Kind == b.Kind && a.Mode == b.Mode && a.Link == b.Link && bytes.Equal(a.Data, b.Data)
}

func same(a, b []api.Node) bool {
	return slices.EqualFunc(a, b, sameNode)
}

// brief is nodes as a failed test tells them, the first ones of many.
func brief(tree []api.Node) string {
	var b strings.Builder
	for _, n := range tree[:min(20, len(tree))] {
		fmt.Fprintf(&b, "[%q: kind %d, mode %d, link %q, %d bytes]", n.Path, n.Kind, n.Mode, n.Link, len(n.Data))
	}
	return b.String()
}

func file(path string, mode int, data string) api.Node {
	return api.Node{Path: path, Kind: api.File, Mode: mode, Data: []byte(data)}
}

func directory(path string, mode int) api.Node {
	return api.Node{Path: path, Kind: api.Dir, Mode: mode}
}

func link(path, target string) api.Node {
	return api.Node{Path: path, Kind: api.Link, Mode: 511, Link: target}
}

// put is the change by which a node is there.
func put(n api.Node) api.Change {
	return api.Change{Kind: api.Put, Path: n.Path, Node: api.Entry{Name: n.Path, Kind: n.Kind, Mode: n.Mode, Link: n.Link, Data: n.Data}}
}

func putFile(path, data string) api.Change {
	return put(file(path, 420, data))
}

func putDir(path string, mode int) api.Change {
	return put(directory(path, mode))
}

func putLink(path, target string) api.Change {
	return put(link(path, target))
}

func putHard(path, old string) api.Change {
	return put(api.Node{Path: path, Kind: api.Hard, Mode: 1, Link: old})
}

func gone(path string) api.Change {
	return api.Change{Kind: api.Whiteout, Path: path}
}

func opaque(path string) api.Change {
	return api.Change{Kind: api.Opaque, Path: path}
}

func changes(l ...api.Change) []api.Change {
	return l
}

// planted is a tree with nodes of each kind, some of them below others.
func planted() []api.Node {
	return []api.Node{
		directory("/a", 448),
		file("/a/f", 420, "one"),
		directory("/a/g", 493),
		file("/a/g/h", 384, "two"),
		link("/a/g/l", "../f"),
		directory("/a-b", 493), // in its bytes it is ahead of what is in /a
		file("/b", 0, ""),
		directory("/c", 4095),
		link("/d", "/nowhere"),
	}
}

// without is planted's nodes but those at these paths.
func without(paths ...string) []api.Node {
	return slices.DeleteFunc(planted(), func(n api.Node) bool { return slices.Contains(paths, n.Path) })
}

// wantApplied: changes bring planted's nodes to these.
func wantApplied(t *testing.T, what string, l []api.Change, want ...api.Node) {
	t.Helper()
	wantTree(t, what, planted(), l, want...)
}

func wantTree(t *testing.T, what string, tree []api.Node, l []api.Change, want ...api.Node) {
	t.Helper()
	got, e := Apply(tree, l)
	if e != api.OK || !same(got, want) {
		t.Errorf("%s: %s, error %d, want %s", what, brief(got), e, brief(want))
	}
	if !Right(got) {
		t.Errorf("%s: no tree", what)
	}
}

// wantRefused: Apply answers an error, and no nodes.
func wantRefused(t *testing.T, what string, tree []api.Node, l []api.Change, want api.Errno) {
	t.Helper()
	if got, e := Apply(tree, l); len(got) != 0 || e != want {
		t.Errorf("%s: %s, error %d, want %d", what, brief(got), e, want)
	}
}

// wantFolded: layers come to these nodes.
func wantFolded(t *testing.T, what string, layers [][]api.Change, want ...api.Node) {
	t.Helper()
	got, e := Fold(layers...)
	if e != api.OK || !same(got, want) || !Right(got) {
		t.Errorf("%s: %s, error %d, want %s", what, brief(got), e, brief(want))
	}
}

// told are the changes of entries.
func told(t *testing.T, l ...api.Entry) []api.Change {
	t.Helper()
	all, e, at := layer.Changes(l...)
	if e != api.OK {
		t.Fatalf("Changes: error %d at %d, %q", e, at, l[at].Name)
	}
	return all
}

// P14.1: the chapter's example
func TestExample(t *testing.T) {
	wantFolded(t, "in a second layer", [][]api.Change{{putFile("/a/f", "x")}, {gone("/a")}})
	wantFolded(t, "in one layer", [][]api.Change{{putFile("/a/f", "x"), gone("/a")}}, directory("/a", 493), file("/a/f", 420, "x"))
}
