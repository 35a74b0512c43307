package fsys

import (
	"iter"
	"slices"

	"dunnage/api"
	"dunnage/dir"
	"dunnage/inode"
)

const (
	root     = 1
	rootMode = 493
	linkMode = 511
	mostMode = 4095
)

const mostNames = api.MaxFile / api.EntryBytes // of a directory

func isMode(mode int) bool {
	return mode >= 0 && mode <= mostMode
}

// tree is inodes, with directories among them.
type tree struct {
	*inode.Store
}

// spot is where a path ends: the directory that has its last name, that name,
// and the inode that it stands for (0, if it is a new one). The root is in no directory.
type spot struct {
	parent int
	name   string
	inode  int
}

func (x spot) isRoot() bool {
	return x.parent == 0
}

// follow goes from the root on, name by name.
func (t tree) follow(names ...string) (spot, api.Errno) {
	at := spot{inode: root}
	for _, name := range names {
		i, e := dir.Find(t.Store, at.inode, name)
		if e != api.OK {
			return spot{}, e
		}
		at = spot{at.inode, name, i}
	}
	return at, api.OK
}

// find is where a path leads to.
func (t tree) find(path string) (spot, api.Errno) {
	names, e := dir.Split(path)
	if e != api.OK {
		return spot{}, e
	}
	return t.follow(names...)
}

// free is where a new path is to lead to.
func (t tree) free(path string) (spot, api.Errno) {
	names, e := dir.Split(path)
	if e != api.OK {
		return spot{}, e
	}
	if len(names) == 0 {
		return spot{}, api.ErrKnown
	}
	last := len(names) - 1
	parent, e := t.follow(names[:last]...)
	if e != api.OK {
		return spot{}, e
	}
	switch _, e := dir.Find(t.Store, parent.inode, names[last]); e {
	case api.OK:
		return spot{}, api.ErrKnown
	case api.ErrNone:
		return spot{parent.inode, names[last], 0}, api.OK
	default:
		return spot{}, e
	}
}

// goesThrough tells whether a path begins with another one's names and has more.
func goesThrough(path, ahead string) (bool, api.Errno) {
	names, e := dir.Split(path)
	if e != api.OK {
		return false, e
	}
	first, e := dir.Split(ahead)
	if e != api.OK {
		return false, e
	}
	return len(names) > len(first) && slices.Equal(names[:len(first)], first), api.OK
}

func (t tree) kind(i int) api.Kind {
	node, _ := t.Get(i)
	return node.Kind
}

// names are those of a directory; of anything else none.
func (t tree) names(i int) []string {
	list, _ := dir.List(t.Store, i)
	return list
}

func (t tree) stat(i int) api.Stat {
	node, _ := t.Get(i)
	size := node.Size
	if node.Kind == api.Dir {
		size = len(t.names(i))
	}
	return api.Stat{Kind: node.Kind, Mode: node.Mode, Links: node.Links, Size: size}
}

// below yields a path and all below it, with their inodes, a directory ahead of what is in it.
// Some may be longer than a path may be: a directory that is renamed takes along what is in it.
func (t tree) below(path string, i int) iter.Seq2[string, int] {
	type found struct {
		path  string
		inode int
	}
	return func(yield func(string, int) bool) {
		entered := map[int]struct{}{} // whoever has the inodes can put a directory into itself, and a walk must end
		stack := []found{{path, i}}
		push := func(ahead string, directory int) {
			for _, name := range slices.Backward(t.names(directory)) {
				i, _ := dir.Find(t.Store, directory, name)
				stack = append(stack, found{ahead + "/" + name, i})
			}
		}
		for len(stack) > 0 {
			x := stack[len(stack)-1]
			stack = stack[:len(stack)-1]
			if !yield(x.path, x.inode) {
				return
			}
			if _, again := entered[x.inode]; again {
				continue
			}
			entered[x.inode] = struct{}{}
			if x.path == "/" {
				x.path = ""
			}
			push(x.path, x.inode)
		}
	}
}
