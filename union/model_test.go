package union

import (
	"maps"
	"slices"
	"strings"
	"testing"

	"dunnage/api"
)

// thing is what a name of the model stands for.
type thing struct {
	kind       api.Kind
	mode       int
	link, data string
	names      map[string]*thing // of a directory
}

func newThing(k api.Kind, mode int, link, data string) *thing {
	return &thing{k, mode, link, data, map[string]*thing{}}
}

func (x *thing) told(path string) []api.Node {
	var tree []api.Node
	for _, name := range slices.Sorted(maps.Keys(x.names)) {
		y, below := x.names[name], path+"/"+name
		tree = append(tree, api.Node{Path: below, Kind: y.kind, Mode: y.mode, Link: y.link, Data: []byte(y.data)})
		tree = append(tree, y.told(below)...)
	}
	return tree
}

// at is what a path leads to; nil, if to nothing.
func (x *thing) at(path string) *thing {
	for _, name := range strings.FieldsFunc(path, func(c rune) bool { return c == '/' }) {
		if x == nil || x.kind != api.Dir {
			return nil
		}
		x = x.names[name]
	}
	return x
}

// applyByTheWords is a second Apply, of a tree and changes that are right.
func applyByTheWords(tree []api.Node, l []api.Change) ([]api.Node, api.Errno) {
	root := newThing(api.Dir, 493, "", "")
	in := func(path string) (*thing, string) {
		end := strings.LastIndex(path, "/")
		return root.at(path[:end]), path[end+1:]
	}
	for _, n := range tree {
		parent, name := in(n.Path)
		parent.names[name] = newThing(n.Kind, n.Mode, n.Link, string(n.Data))
	}
	for _, c := range l {
		switch x := root.at(c.Path); {
		case x == nil:
		case c.Kind == api.Whiteout:
			parent, name := in(c.Path)
			delete(parent.names, name)
		case c.Kind == api.Opaque:
			clear(x.names)
		}
	}
	long := false
	for _, c := range l {
		if c.Kind != api.Put || c.Path == "/" {
			continue
		}
		x := root
		names := strings.Split(c.Path[1:], "/")
		for _, name := range names[:len(names)-1] {
			if x.names[name] == nil {
				x.names[name] = newThing(api.Dir, 493, "", "")
			}
			if x = x.names[name]; x.kind != api.Dir {
				return nil, api.ErrLayer
			}
			long = long || len(root.told("")) > 256
		}
		name, n := names[len(names)-1], c.Node
		switch {
		case n.Kind == api.Hard:
			old := root.at(n.Link)
			if old == nil || old.kind != api.File {
				return nil, api.ErrLayer
			}
			x.names[name] = newThing(api.File, old.mode, "", old.data)
		case n.Kind == api.Link:
			x.names[name] = newThing(api.Link, 511, n.Link, "")
		case n.Kind == api.Dir && x.names[name] != nil && x.names[name].kind == api.Dir:
			x.names[name].mode = n.Mode
		default:
			x.names[name] = newThing(n.Kind, n.Mode, "", string(n.Data))
		}
		long = long || len(root.told("")) > 256
	}
	if long {
		return nil, api.ErrLong
	}
	return root.told(""), api.OK
}

// changeByARule is a right change; its path has few names of few kinds, so that many meet.
func changeByARule(next func(int) int) api.Change {
	path := func() string {
		p := ""
		for range 1 + next(3) {
			p += "/" + []string{"a", "b", "a-", "c"}[next(4)]
		}
		return p
	}
	switch next(12) {
	case 0:
		return gone(path())
	case 1:
		return opaque(path())
	case 2:
		return opaque("/")
	case 3:
		return putDir("/", next(4096))
	case 4, 5:
		return putHard(path(), path())
	case 6:
		return putLink(path(), path())
	case 7, 8:
		return putDir(path(), next(4096))
	default:
		return put(file(path(), next(4096), many(next(5))))
	}
}

// P14.1, P14.5: changes by a rule, one layer behind the other, held against a second Apply
func TestAgainstTheModel(t *testing.T) {
	next := row(4)
	seen := map[api.Errno]int{}
	for range 8000 {
		var tree []api.Node
		for range 4 {
			var l []api.Change
			for range next(7) {
				l = append(l, changeByARule(next))
			}
			want, err := applyByTheWords(tree, l)
			got, e := Apply(tree, l)
			if e != err || !same(got, want) || !rightByTheWords(got) {
				t.Fatalf("%s with %v: %s, error %d, want %s, %d", brief(tree), l, brief(got), e, brief(want), err)
			}
			if seen[e]++; e == api.OK {
				tree = got
			}
		}
	}
	if seen[api.OK] < 5000 || seen[api.ErrLayer] < 5000 {
		t.Errorf("errors: %v", seen)
	}
}

// P14.1: the same, with nearly as many nodes as there may be
func TestAgainstTheModelNearMaxEntries(t *testing.T) {
	next := row(5)
	seen := map[api.Errno]int{}
	for range 400 {
		tree := numbered("", api.MaxEntries-next(6))
		var l []api.Change
		for range 1 + next(5) {
			c := changeByARule(next)
			if c.Path == "/" || c.Kind == api.Put && c.Node.Kind == api.Hard && next(4) > 0 {
				c = putHard(c.Path, "/1000")
			}
			if c.Path != "/" {
				l = append(l, c)
			}
		}
		want, err := applyByTheWords(tree, l)
		got, e := Apply(tree, l)
		if e != err || !same(got, want) {
			t.Fatalf("%d nodes with %v: error %d, want %d", len(tree), l, e, err)
		}
		seen[e]++
	}
	if seen[api.OK] < 50 || seen[api.ErrLong] < 50 || seen[api.ErrLayer] < 50 {
		t.Errorf("errors: %v", seen)
	}
}
