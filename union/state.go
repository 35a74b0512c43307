package union

import (
	"iter"
	"maps"
	"slices"
	"strings"

	"dunnage/api"
)

// state is nodes by their paths, while changes are applied.
type state map[string]api.Node

func standing(tree []api.Node) state {
	s := state{}
	for _, n := range tree {
		s[n.Path] = n
	}
	return s
}

// takeAway lets go what whiteouts and opaques take.
func (s state) takeAway(l []api.Change) {
	for _, c := range l {
		switch c.Kind {
		case api.Whiteout:
			delete(s, c.Path)
			fallthrough
		case api.Opaque:
			s.empty(c.Path)
		}
	}
}

// putAll lets the nodes that are put be there; it tells how many there were at most.
func (s state) putAll(l []api.Change) (most int, e api.Errno) {
	for _, c := range l {
		if c.Kind != api.Put || c.Path == root {
			continue
		}
		if !s.put(c.Node) {
			return 0, api.ErrLayer
		}
		most = max(most, len(s))
	}
	return most, api.OK
}

// put lets the node of an entry be there; false, if it may not be.
func (s state) put(e api.Entry) bool {
	for path := range ahead(e.Name) {
		if _, ok := s[path]; !ok {
			s[path] = api.Node{Path: path, Kind: api.Dir, Mode: dirMode}
		}
		if s[path].Kind != api.Dir {
			return false
		}
	}
	n, ok := s.nodeOf(e)
	if !ok {
		return false
	}
	if n.Kind != api.Dir && s[n.Path].Kind == api.Dir {
		s.empty(n.Path)
	}
	s[n.Path] = n
	return true
}

// nodeOf is what an entry is by now; false, if it is a Hard that leads to no File.
func (s state) nodeOf(e api.Entry) (n api.Node, ok bool) {
	n = api.Node{Path: e.Name, Kind: e.Kind, Mode: e.Mode, Link: e.Link, Data: e.Data}
	switch e.Kind {
	case api.Link:
		n.Mode = linkMode
	case api.Hard:
		n = s[e.Link]
		n.Path = e.Name
		return n, n.Kind == api.File
	}
	return n, true
}

// empty lets all below a path go.
func (s state) empty(path string) {
	for below := range s.below(path) {
		delete(s, below)
	}
}

// below yields the paths of the nodes below a path, in any order; the one that was yielded last may go.
func (s state) below(path string) iter.Seq[string] {
	stem := strings.TrimSuffix(path, "/") + "/"
	return func(yield func(string) bool) {
		for p := range s {
			if strings.HasPrefix(p, stem) && !yield(p) {
				return
			}
		}
	}
}

// ahead yields the paths of the directories that a path goes through, without the root.
func ahead(path string) iter.Seq[string] {
	return func(yield func(string) bool) {
		for at := 1; at < len(path); at++ {
			if path[at] == '/' && !yield(path[:at]) {
				return
			}
		}
	}
}

// inOrder is the nodes as a tree, each with bytes of its own.
func (s state) inOrder() []api.Node {
	tree := slices.SortedFunc(maps.Values(s), func(a, b api.Node) int { return byNames(a.Path, b.Path) })
	for i := range tree {
		tree[i].Data = append([]byte(nil), tree[i].Data...)
	}
	return tree
}
