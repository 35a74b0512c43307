package dir

import (
	"iter"

	"dunnage/api"
	"dunnage/inode"
	"dunnage/octets"
)

// Of an entry's bytes: where the name's length stands, and where the name begins; the inode's number is ahead.
const (
	lengthAt = 4
	nameAt   = 5
)

// entry is one of a directory; of the inode 0, if it is free.
type entry struct {
	inode int
	name  string
}

func encoded(x entry) []byte {
	b := make([]byte, api.EntryBytes)
	octets.Put(b[:lengthAt], x.inode)
	b[lengthAt] = byte(len(x.name))
	copy(b[nameAt:], x.name)
	return b
}

// decoded ends even if others have written to the directory: no name goes past its entry.
func decoded(b []byte) entry {
	end := min(nameAt+int(b[lengthAt]), api.EntryBytes)
	return entry{octets.Number(b[:lengthAt]), string(b[nameAt:end])}
}

// folder is a directory at work. Nothing of it outlasts a call.
type folder struct {
	*inode.Store
	number int
	size   int
}

func opened(s *inode.Store, dir int) (folder, api.Errno) {
	node, e := s.Get(dir)
	if e != api.OK {
		return folder{}, e
	}
	if node.Kind != api.Dir {
		return folder{}, api.ErrDir
	}
	return folder{s, dir, node.Size}, api.OK
}

// asked is a directory that is asked for a name.
func asked(s *inode.Store, dir int, name string) (folder, api.Errno) {
	f, e := opened(s, dir)
	if e == api.OK && !IsName(name) {
		return folder{}, api.ErrName
	}
	return f, e
}

// entries yields all entries with their places, the free ones too.
func (f folder) entries() iter.Seq2[int, entry] {
	return func(yield func(int, entry) bool) {
	all:
		for page := 0; page < f.size; page += api.SectorBytes {
			b, _ := f.Read(f.number, page, api.SectorBytes)
			for at := 0; at+api.EntryBytes <= len(b); at += api.EntryBytes {
				if !yield(page+at, decoded(b[at:][:api.EntryBytes])) {
					break all
				}
			}
		}
	}
}

// taken yields those that are not free.
func (f folder) taken() iter.Seq2[int, entry] {
	return func(yield func(int, entry) bool) {
		for at, x := range f.entries() {
			if x.inode != 0 && !yield(at, x) {
				return
			}
		}
	}
}

// find is the place of a name, and its inode.
func (f folder) find(name string) (at, i int, e api.Errno) {
	for at, x := range f.taken() {
		if x.name == name {
			return at, x.inode, api.OK
		}
	}
	return 0, 0, api.ErrNone
}

// firstFree is the place of the first free entry; if there is none, that behind the last one.
func (f folder) firstFree() int {
	for at, x := range f.entries() {
		if x.inode == 0 {
			return at
		}
	}
	return f.size / api.EntryBytes * api.EntryBytes
}

// remove lets the entry at a place be free. Pages at the end that have no name then go:
// else a name that took one would leave it behind when it is dropped again.
func (f folder) remove(gone int) api.Errno {
	end := 0
	for at := range f.taken() {
		if at != gone {
			end = at/api.SectorBytes*api.SectorBytes + api.SectorBytes
		}
	}
	if gone >= end {
		return f.Resize(f.number, end)
	}
	return f.Write(f.number, gone, make([]byte, api.EntryBytes)...)
}
