package fsys

import (
	"dunnage/api"
	"dunnage/dir"
)

// givenUp is what a change panics with, if a step of it has an error.
type givenUp struct {
	why api.Errno
}

// must gives a change up, if a step of it finds no room. (All else that may be wrong is asked for ahead of the first step.)
func must(e api.Errno) {
	if e != api.OK {
		panic(givenUp{e})
	}
}

// change does the steps of a change. Where they are given up, nothing is left to do:
// the inodes, where there is no room, forget by themselves what was done since the last Commit.
func change(steps func()) (e api.Errno) {
	defer func() {
		switch x := recover().(type) {
		case nil:
		case givenUp:
			e = x.why
		default:
			panic(x)
		}
	}()
	steps()
	return api.OK
}

// create lets a new path lead to a new inode.
func (t tree) create(path string, k api.Kind, mode int, b []byte) api.Errno {
	at, e := t.free(path)
	if e != api.OK {
		return e
	}
	if len(b) > api.MaxFile || t.isFull(at.parent) {
		return api.ErrLong
	}
	return change(func() {
		i, e := t.Make(k, mode)
		must(e)
		must(t.Write(i, 0, b...))
		must(dir.Add(t.Store, at.parent, at.name, i))
	})
}

// overwrite lets a file have these bytes and no others.
func (t tree) overwrite(i, mode int, b []byte) api.Errno {
	node, e := t.Get(i)
	if e != api.OK {
		return e
	}
	if len(b) > api.MaxFile {
		return api.ErrLong
	}
	return change(func() {
		must(t.Resize(i, len(b)))
		must(t.Write(i, 0, b...))
		must(t.Set(i, mode, node.Links))
	})
}

// link lets an inode have one more name.
func (t tree) link(from, to spot) api.Errno {
	node, e := t.Get(from.inode)
	if e != api.OK {
		return e
	}
	if t.isFull(to.parent) {
		return api.ErrLong
	}
	return change(func() {
		must(t.Set(from.inode, node.Mode, node.Links+1))
		must(dir.Add(t.Store, to.parent, to.name, from.inode))
	})
}

// remove takes a name away, and all below it.
func (t tree) remove(at spot) api.Errno {
	var all []int // ahead of the first step: it takes away what a walk goes through
	for _, i := range t.below("", at.inode) {
		all = append(all, i)
	}
	return change(func() {
		t.drop(at)
		for _, i := range all {
			t.release(i)
		}
	})
}

// release takes one of its names away from an inode, which goes with the last one.
func (t tree) release(i int) {
	node, e := t.Get(i)
	must(e)
	if node.Links > 1 {
		must(t.Set(i, node.Mode, node.Links-1))
		return
	}
	must(t.Drop(i))
}

// move lets an inode have another name. The old one goes first: a directory may be full, and have no room but for it.
func (t tree) move(from, to spot) api.Errno {
	if from.parent != to.parent && t.isFull(to.parent) {
		return api.ErrLong
	}
	return change(func() {
		t.drop(from)
		must(dir.Add(t.Store, to.parent, to.name, from.inode))
	})
}

func (t tree) drop(at spot) {
	_, e := dir.Drop(t.Store, at.parent, at.name)
	must(e)
}

// isFull tells whether a directory is as long as a file may be, and each entry of it has a name.
func (t tree) isFull(directory int) bool {
	return len(t.names(directory)) >= mostNames
}
