package union

import (
	"iter"
	"strings"

	"dunnage/api"
	"dunnage/dir"
	"dunnage/fsys"
)

const (
	rootInode = 1
	mostNames = api.MaxFile / api.EntryBytes // of a directory
	plenty    = 10                           // pages: more than Mkdir takes, and more than it writes to
)

// fits tells whether each node's path behind a path is one.
func fits(path string, tree []api.Node) bool {
	for _, n := range tree {
		if _, e := dir.Split(path + n.Path); e != api.OK {
			return false
		}
	}
	return true
}

// lay makes a node at a path.
func lay(f *fsys.FS, path string, n api.Node) api.Errno {
	switch n.Kind {
	case api.Dir:
		return f.Mkdir(path, n.Mode)
	case api.Link:
		return f.Symlink(path, n.Link)
	}
	return f.Write(path, n.Mode, n.Data...)
}

// refusal is the error of a tree that does not fit behind a path. Mkdir's own goes ahead of it, but nothing is to change:
// so Mkdir is asked only where it may have one; where it has none, though room is short, its directory goes again.
func refusal(f *fsys.FS, path string) api.Errno {
	if canMake(f, path) {
		return api.ErrName
	}
	if e := f.Mkdir(path, dirMode); e != api.OK {
		return e
	}
	f.Rmdir(path)
	return api.ErrName
}

// canMake tells whether Mkdir is sure to make a directory.
func canMake(f *fsys.FS, path string) bool {
	if _, e := f.Stat(path); e != api.ErrNone {
		return false
	}
	parent, _ := f.Stat(parentOf(path))
	if parent.Kind != api.Dir || parent.Size >= mostNames {
		return false
	}
	pages, inodes := f.Free()
	return inodes > 0 && pages >= plenty && f.Inodes().Map().Cache().Room() >= plenty
}

// nodes yields what was found below the first one, with paths as if that were the root.
func nodes(f *fsys.FS, found []api.Found) iter.Seq[api.Node] {
	top := strings.TrimSuffix(found[0].Path, "/")
	return func(yield func(api.Node) bool) {
		for _, x := range found[1:] {
			n := api.Node{Path: x.Path[len(top):], Kind: x.Stat.Kind, Mode: x.Stat.Mode}
			switch n.Kind {
			case api.File:
				n.Data = contents(f, x.Path)
			case api.Link:
				n.Link = string(contents(f, x.Path))
			}
			if !yield(n) {
				return
			}
		}
	}
}

// contents are the bytes of a file or a link. It is found by inodes: one that Rename took along may lie further down than a path goes.
func contents(f *fsys.FS, path string) []byte {
	i := rootInode
	for name := range strings.SplitSeq(tarName(path), "/") {
		i, _ = dir.Find(f.Inodes(), i, name)
	}
	b, _ := f.Inodes().Read(i, 0, api.MaxFile)
	return b
}
