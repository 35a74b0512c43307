package blob

import (
	"iter"
	"strings"

	"dunnage/api"
	"dunnage/fsys"
	"dunnage/sha"
)

const (
	home        = "/blobs"
	shardDigits = 6 // of a digest, by which its directory is named
	fileMode    = 292
	dirMode     = 493
)

// shard is the directory of a blob.
func shard(h api.Hash) string {
	return home + "/" + sha.Hex(h)[:shardDigits]
}

// shards are a file system's directories of blobs.
type shards struct {
	*fsys.FS
}

// has tells whether a digest's path leads to a file: what else others have put there is no blob.
func (x shards) has(h api.Hash) bool {
	s, _ := x.Stat(Path(h))
	return s.Kind == api.File
}

// directory lets a directory be there.
func (x shards) directory(path string) api.Errno {
	s, e := x.Stat(path)
	if e == api.ErrNone {
		return x.Mkdir(path, dirMode)
	}
	if e == api.OK && s.Kind != api.Dir {
		return api.ErrBroken
	}
	return e
}

// write lets a blob be there that is not there yet. Where New made the first directory,
// and nothing was committed since, an Abort or a call without room may have taken it away.
func (x shards) write(h api.Hash, b []byte) api.Errno {
	for _, path := range []string{home, shard(h)} {
		if e := x.directory(path); e != api.OK {
			return e
		}
	}
	return x.Write(Path(h), fileMode, b...)
}

// remove lets a blob go, and with the last one of its directory that, too.
func (x shards) remove(h api.Hash) api.Errno {
	if e := x.Unlink(Path(h)); e != api.OK {
		return e
	}
	if e := x.Rmdir(shard(h)); e != api.ErrBusy {
		return e
	}
	return api.OK // it has others
}

// in yields the paths of what is in a directory, by their names; of anything else none.
func (x shards) in(path string) iter.Seq[string] {
	return func(yield func(string) bool) {
		names, _ := x.List(path)
		for _, name := range names {
			if !yield(path + "/" + name) {
				return
			}
		}
	}
}

// digests yields those of all blobs. They rise as the paths do: digits have the order of what they are worth.
func (x shards) digests() iter.Seq[api.Hash] {
	return func(yield func(api.Hash) bool) {
		for directory := range x.in(home) {
			for path := range x.in(directory) {
				if h, ok := x.at(path); ok && !yield(h) {
					return
				}
			}
		}
	}
}

// at is the digest of the blob that lies at a path; false, if there is none.
func (x shards) at(path string) (api.Hash, bool) {
	h, _ := sha.UnHex(strings.ReplaceAll(path[len(home):], "/", ""))
	return h, Path(h) == path && x.has(h)
}
