package gc

import (
	"iter"

	"dunnage/api"
	"dunnage/blob"
	"dunnage/fsys"
	"dunnage/layer"
	"dunnage/manifest"
	"dunnage/union"
)

const (
	blobsPath = "/blobs"
	rootsPath = "/roots"
	refsPath  = "/refs"
	dirMode   = 493
	refsMode  = 420
)

// rootOf is the directory of a pin.
func rootOf(word string) string {
	return rootsPath + "/" + word
}

// missingOf are those of some paths that lead to nothing.
func missingOf(f *fsys.FS, paths ...string) []string {
	var missing []string
	for _, path := range paths {
		if _, e := f.Stat(path); e == api.ErrNone {
			missing = append(missing, path)
		}
	}
	return missing
}

func removeAll(f *fsys.FS, directories ...string) {
	for _, path := range directories {
		f.Rmdir(path)
	}
}

// shelf is blobs, and what refers to them.
type shelf struct {
	*blob.Store
	references
}

// begin looks at what is there, and makes what is not.
func (x *shelf) begin() api.Errno {
	if e := x.makeRoots(); e != api.OK {
		return e
	}
	if s, _ := x.FS().Stat(rootsPath); s.Kind != api.Dir {
		return api.ErrBroken
	}
	return x.recall()
}

func (x *shelf) makeRoots() api.Errno {
	if _, e := x.FS().Stat(rootsPath); e != api.ErrNone {
		return api.OK
	}
	return x.FS().Mkdir(rootsPath, dirMode)
}

// recall lets the references be those that the file system has. That is asked for anew at each call:
// all since the last Commit may have been forgotten, also by a call of the file system that found no room.
func (x *shelf) recall() api.Errno {
	x.forget()
	b, e := x.FS().Read(refsPath)
	if e == api.ErrNone {
		return api.OK
	}
	if e != api.OK || !x.read(b) {
		return api.ErrBroken
	}
	return api.OK
}

// keep lets the file system have the references, and lets go what has none any more; lost are the blobs that may be such.
// Whatever stands against it (also a root that is full of names), there is no room for that.
func (x *shelf) keep(lost ...api.Hash) api.Errno {
	if x.settle(lost) != api.OK {
		x.FS().Abort()
		return api.ErrFull
	}
	return api.OK
}

// settle lets blobs go first: the references may need the room. Where Open made /roots, and nothing was committed since,
// it may have been forgotten.
func (x *shelf) settle(lost []api.Hash) api.Errno {
	for h := range x.unreferred(lost) {
		if e := x.Delete(h); e != api.OK {
			return e
		}
	}
	if e := x.makeRoots(); e != api.OK {
		return e
	}
	if x.isEmpty() {
		return x.FS().Unlink(refsPath)
	}
	return x.FS().Write(refsPath, refsMode, x.encoded()...)
}

// unreferred yields those of some blobs that are there and have no references. The one that was yielded last may go:
// so none is yielded twice then, however often it stands among them.
func (x *shelf) unreferred(some []api.Hash) iter.Seq[api.Hash] {
	return func(yield func(api.Hash) bool) {
		counts := x.counts()
		for _, h := range some {
			if counts[h] == 0 && x.Has(h) && !yield(h) {
				return
			}
		}
	}
}

// audit holds the blobs that are there against those that are referred to. Where each one has references,
// there are more of the latter just if one of them is not there.
func (x *shelf) audit() api.Errno {
	list, e := x.List()
	if e != api.OK {
		return e
	}
	for range x.unreferred(list) {
		return api.ErrBroken
	}
	if len(x.counts()) > len(list) {
		return api.ErrBroken
	}
	return api.OK
}

// counts is how many references each blob has that has some.
func (x *shelf) counts() counts {
	c := counts{}
	for r := range x.all() {
		r.addTo(c)
	}
	return c
}

// all yields the references, in any order. A manifest that words stand for names its layers once, however many words these are.
func (x *shelf) all() iter.Seq[reference] {
	return func(yield func(reference) bool) {
		for r := range x.own() {
			if !yield(r) {
				return
			}
		}
		for h := range x.manifests() {
			m, _ := x.manifest(h)
			if !yield(naming(m)) {
				return
			}
		}
	}
}

// manifest is the one that a blob is.
func (x *shelf) manifest(h api.Hash) (api.Manifest, api.Errno) {
	b, e := x.Get(h)
	if e != api.OK {
		return api.Manifest{}, e
	}
	return manifest.Decode(b)
}

// isWhole has an error, unless a blob is a manifest whose layers are there.
func (x *shelf) isWhole(h api.Hash) api.Errno {
	m, e := x.manifest(h)
	if e != api.OK {
		return e
	}
	for _, l := range m.Layers {
		if !x.Has(l) {
			return api.ErrNone
		}
	}
	return api.OK
}

// reached are the blobs that a word refers to which stands for a manifest: that, and what it names.
func (x *shelf) reached(h api.Hash) []api.Hash {
	m, _ := x.manifest(h)
	return append(m.Layers, h)
}

// tree is what the layers of a manifest come to.
func (x *shelf) tree(h api.Hash) ([]api.Node, api.Errno) {
	m, e := x.manifest(h)
	if e != api.OK {
		return nil, e
	}
	var layers [][]api.Change
	for _, l := range m.Layers {
		b, _ := x.Get(l)
		changes, e := layer.Read(b)
		if e != api.OK {
			return nil, api.ErrLayer
		}
		layers = append(layers, changes)
	}
	tree, e := union.Fold(layers...)
	if e != api.OK {
		return nil, api.ErrLayer
	}
	return tree, api.OK
}
