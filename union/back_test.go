package union

import (
	"slices"
	"strings"
	"testing"

	"dunnage/api"
	"dunnage/fsys"
	"dunnage/layer"
	"dunnage/tarfmt"
)

// wantBack: what a directory is exported as comes to its tree again, as changes and as a tar's bytes.
func wantBack(t *testing.T, what string, f *fsys.FS, path string, tree []api.Node) {
	t.Helper()
	l, e := Export(f, path)
	wantError(t, "Export", e, api.OK)
	wantFolded(t, what, [][]api.Change{told(t, l...)}, tree...)
	b, e := tarfmt.Print(l...)
	wantError(t, "Print", e, api.OK)
	again, e, _ := tarfmt.Parse(b)
	wantError(t, "Parse", e, api.OK)
	wantFolded(t, what, [][]api.Change{told(t, again...)}, tree...)
	read, e := layer.Read(b)
	wantError(t, "Read", e, api.OK)
	wantFolded(t, what, [][]api.Change{read}, tree...)
}

// P14.3, P14.4, E3: trees by a rule: laid out, told, exported, printed, parsed and folded again
func TestThereAndBack(t *testing.T) {
	next := row(6)
	most := 0
	for range 60 {
		tree := treeByARule(next, 35)
		f := ground(t, 400, 64)
		for _, path := range []string{"/r", "/d/e/s"} {
			e := Lay(f, path, tree)
			if e == api.ErrName && !fitsByTheWords(path, tree) {
				continue
			}
			wantError(t, "Lay", e, api.OK)
			wantLaid(t, "a tree", f, path, tree)
			wantBack(t, "a tree", f, path, tree)
			most = max(most, len(tree))
			commit(t, f)
		}
		if t.Failed() {
			t.Fatal(brief(tree))
		}
	}
	if most < 25 {
		t.Errorf("%d nodes at most", most)
	}
}

func fitsByTheWords(path string, tree []api.Node) bool {
	return !slices.ContainsFunc(tree, func(n api.Node) bool { return !isPathByTheWords(path + n.Path) })
}

// P14.4: paths that are as long as they may be, exported from the root: a tar has them without the first stroke alone.
func TestLongestPathsBack(t *testing.T) {
	f := made(t, 240, 64)
	tree := []api.Node{
		directory(pathOf(59), 493), directory(pathOf(59, 59), 493), directory(pathOf(59, 59, 35), 493), directory(pathOf(59, 59, 35, 59), 493), file(pathOf(59, 59, 35, 59, 38), 420, "x"),
	}
	for _, n := range tree[:4] {
		wantError(t, "Mkdir", f.Mkdir(n.Path, 493), api.OK)
	}
	wantError(t, "Write", f.Write(tree[4].Path, 420, 'x'), api.OK)
	wantTold(t, "the longest paths", f, "/", tree...)
	wantBack(t, "the longest paths", f, "/", tree)
}

// P14.3, P14.5, E6: layers that are read from tars, folded, laid out and told
func TestLayersLaidOut(t *testing.T) {
	next := row(7)
	folded := 0
	for range 400 {
		var layers [][]api.Change
		for range 1 + next(api.MaxLayers) {
			var l []api.Entry
			for range next(6) {
				l = append(l, entryByARule(next))
			}
			b, e := tarfmt.Print(l...)
			wantError(t, "Print", e, api.OK)
			all, e := layer.Read(b)
			wantError(t, "Read", e, api.OK)
			layers = append(layers, all)
		}
		var want []api.Node
		err := api.OK
		for _, l := range layers {
			if want, err = applyByTheWords(want, l); err != api.OK {
				break
			}
		}
		tree, e := Fold(layers...)
		if e != err || !same(tree, want) {
			t.Fatalf("%v: %s, error %d, want %s, %d", layers, brief(tree), e, brief(want), err)
		}
		if e != api.OK {
			continue
		}
		f := made(t, 300, 64)
		wantError(t, "Lay", Lay(f, "/r", tree), api.OK)
		wantLaid(t, "layers", f, "/r", tree)
		folded++
	}
	if folded < 100 {
		t.Errorf("%d times a tree", folded)
	}
}

// entryByARule is an entry that has a change.
func entryByARule(next func(int) int) api.Entry {
	name := func() string {
		return strings.Join([]string{"a", "b", "c"}[:1+next(3)], "/") + []string{"", "/", "//x", "/./y"}[next(4)]
	}
	switch next(9) {
	case 0:
		return api.Entry{Name: name() + "/.wh." + []string{"x", "y", "b"}[next(3)], Kind: api.File}
	case 1:
		return api.Entry{Name: name() + "/.wh..wh..opq", Kind: api.File}
	case 2:
		return api.Entry{Name: name(), Kind: api.Link, Mode: next(4096), Link: "../" + name()}
	case 3:
		return api.Entry{Name: name(), Kind: api.Hard, Link: name()}
	case 4, 5:
		return api.Entry{Name: name(), Kind: api.Dir, Mode: next(4096)}
	}
	return api.Entry{Name: name() + "/f", Kind: api.File, Mode: next(4096), Data: []byte(many(next(600)))}
}
