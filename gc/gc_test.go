package gc

import (
	"bytes"
	"crypto/sha256"
	"slices"
	"strings"
	"testing"

	"dunnage/api"
	"dunnage/bcache"
	"dunnage/disk"
	"dunnage/fsys"
	"dunnage/tarfmt"
)

func wantError(t *testing.T, what string, got, want api.Errno) {
	t.Helper()
	if got != want {
		t.Errorf("%s: error %d, want %d", what, got, want)
	}
}

func second[T any](_ T, e api.Errno) api.Errno {
	return e
}

// text is so many bytes, none of them 0.
func text(n, seed int) []byte {
	b := make([]byte, n)
	for i := range b {
		b[i] = byte(1 + (i*7+i/255+seed*31)%255)
	}
	return b
}

// digest is what the library says; no code of the program is asked.
func digest(b []byte) api.Hash {
	return sha256.Sum256(b)
}

// made is a new file system on so many pages, with the greatest log.
func made(t *testing.T, pages, inodes int) *fsys.FS {
	t.Helper()
	d, e := disk.New(1 + api.MaxGroup + pages)
	wantError(t, "disk.New", e, api.OK)
	f, e := fsys.Make(d, api.MaxGroup, inodes)
	if f == nil || e != api.OK {
		t.Fatalf("Make: error %d", e)
	}
	return f
}

func mounted(t *testing.T, d *disk.Disk) *fsys.FS {
	t.Helper()
	f, e := fsys.Mount(d, api.MaxGroup)
	if f == nil || e != api.OK {
		t.Fatalf("Mount: error %d", e)
	}
	return f
}

func opened(t *testing.T, f *fsys.FS) *Store {
	t.Helper()
	s, e := Open(f)
	if s == nil || e != api.OK {
		t.Fatalf("Open: error %d", e)
	}
	return s
}

// stored is a committed store without references.
func stored(t *testing.T, pages, inodes int) *Store {
	t.Helper()
	s := opened(t, made(t, pages, inodes))
	commit(t, s)
	return s
}

func files(s *Store) *fsys.FS {
	return s.Blobs().FS()
}

func cacheOf(s *Store) *bcache.Cache {
	return files(s).Inodes().Map().Cache()
}

func commit(t *testing.T, s *Store) {
	t.Helper()
	wantError(t, "Commit", s.Commit(), api.OK)
}

func put(t *testing.T, s *Store, b []byte) api.Hash {
	t.Helper()
	h, e := s.Put(b...)
	if h != digest(b) || e != api.OK {
		t.Errorf("Put of %d bytes: %x, error %d", len(b), h, e)
	}
	return h
}

func file(name, data string) api.Entry {
	return api.Entry{Name: name, Kind: api.File, Mode: 420, Data: []byte(data)}
}

func directory(name string) api.Entry {
	return api.Entry{Name: name, Kind: api.Dir, Mode: 493}
}

func tarOf(t *testing.T, l ...api.Entry) []byte {
	t.Helper()
	b, e := tarfmt.Print(l...)
	wantError(t, "Print", e, api.OK)
	return b
}

// imageOf is a manifest's bytes, as chapter 11 says how they are.
func imageOf(os string, layers ...[]byte) []byte {
	b := append([]byte{0x44, 0x4d, 1, byte(len(os))}, os...)
	b = append(b, 3, 'a', 'r', 'm', byte(len(layers)))
	for _, l := range layers {
		h := digest(l)
		b = append(b, h[:]...)
	}
	return b
}

// pages are all pages as the cache tells them.
func pages(f *fsys.FS) [][]byte {
	c := f.Inodes().Map().Cache()
	var all [][]byte
	for n := range c.Log().Pages() {
		b, _ := c.Read(n)
		all = append(all, b)
	}
	return all
}

// wantStill: nothing changes, and nothing that waits for a Commit is kept or forgotten.
func wantStill(t *testing.T, what string, f *fsys.FS, call func()) {
	t.Helper()
	c := f.Inodes().Map().Cache()
	was, dirty, ops := pages(f), c.Dirty(), f.Disk().Ops()
	call()
	if !slices.EqualFunc(was, pages(f), bytes.Equal) || !slices.Equal(dirty, c.Dirty()) || ops != f.Disk().Ops() {
		t.Errorf("%s: something has changed", what)
	}
}

// wantRefused: a call has an error, and nothing changes.
func wantRefused(t *testing.T, what string, s *Store, want api.Errno, call func() api.Errno) {
	t.Helper()
	wantStill(t, what, files(s), func() { wantError(t, what, call(), want) })
}

func longWord(n int) string {
	return strings.Repeat("w", n)
}

// The blobs of planted: two layers, three manifests, of which the last one names one layer three times, and a text.
func oneLayer(t *testing.T) []byte {
	return tarOf(t, file("a", "one"), directory("d"), file("d/f", strings.Repeat("x", 700)))
}

func twoLayer(t *testing.T) []byte {
	return tarOf(t, file("a", "two"), file("d/.wh.f", ""), api.Entry{Name: "l", Kind: api.Link, Link: "a"})
}

func oneImage(t *testing.T) []byte {
	return imageOf("one", oneLayer(t))
}

func bothImage(t *testing.T) []byte {
	return imageOf("both", oneLayer(t), twoLayer(t))
}

func thriceImage(t *testing.T) []byte {
	return imageOf("thrice", twoLayer(t), oneLayer(t), twoLayer(t), twoLayer(t))
}

func plainText() []byte {
	return []byte("a text")
}

// planted is a committed store of 300 pages and 64 inodes with all of these held once, the tags x and y of one and z of both,
// and the pin p of one; and the model of it.
func planted(t *testing.T) (*Store, *model) {
	t.Helper()
	s, m := stored(t, 300, 64), newModel()
	for _, b := range [][]byte{oneLayer(t), twoLayer(t), oneImage(t), bothImage(t), thriceImage(t), plainText()} {
		put(t, s, b)
		wantError(t, "the model's put", m.put(b), api.OK)
	}
	for _, x := range []struct {
		word string
		h    api.Hash
	}{{"x", digest(oneImage(t))}, {"y", digest(oneImage(t))}, {"z", digest(bothImage(t))}} {
		wantError(t, "Tag", s.Tag(x.word, x.h), api.OK)
		wantError(t, "the model's tag", m.tag(x.word, x.h), api.OK)
	}
	wantError(t, "Pin", s.Pin("p", "x"), api.OK)
	wantError(t, "the model's pin", m.pin("p", "x"), api.OK)
	commit(t, s)
	m.commit()
	return s, m
}
