package blob

import (
	"bytes"
	"crypto/sha256"
	"encoding/hex"
	"maps"
	"slices"
	"strings"
	"testing"

	"dunnage/api"
	"dunnage/bcache"
	"dunnage/disk"
	"dunnage/fsck"
	"dunnage/fsys"
)

// Texts whose digests have the same first 6 digits, 7e1930.
const (
	oneOfThree   = "60896"
	twoOfThree   = "83476"
	threeOfThree = "151638"
)

func wantError(t *testing.T, what string, got, want api.Errno) {
	t.Helper()
	if got != want {
		t.Errorf("%s: error %d, want %d", what, got, want)
	}
}

func second[T any](_ T, e api.Errno) api.Errno {
	return e
}

// text is so many bytes, none of them 0.
func text(n, seed int) []byte {
	b := make([]byte, n)
	for i := range b {
		b[i] = byte(1 + (i*7+i/255+seed*31)%255)
	}
	return b
}

// digest is what the library says; no code of the program is asked.
func digest(b []byte) api.Hash {
	return sha256.Sum256(b)
}

// made is a new file system on so many pages, with the greatest log.
func made(t *testing.T, pages, inodes int) *fsys.FS {
	t.Helper()
	d, e := disk.New(1 + api.MaxGroup + pages)
	wantError(t, "disk.New", e, api.OK)
	f, e := fsys.Make(d, api.MaxGroup, inodes)
	if f == nil || e != api.OK {
		t.Fatalf("Make: error %d", e)
	}
	return f
}

func mounted(t *testing.T, d *disk.Disk) *fsys.FS {
	t.Helper()
	f, e := fsys.Mount(d, api.MaxGroup)
	if f == nil || e != api.OK {
		t.Fatalf("Mount: error %d", e)
	}
	return f
}

func over(t *testing.T, f *fsys.FS) *Store {
	t.Helper()
	s, e := New(f)
	if s == nil || e != api.OK {
		t.Fatalf("New: error %d", e)
	}
	return s
}

// stored is a committed store without blobs.
func stored(t *testing.T, pages, inodes int) *Store {
	t.Helper()
	s := over(t, made(t, pages, inodes))
	commit(t, s)
	return s
}

// planted is a committed store of 240 pages and 64 inodes with these blobs: abc, two of one directory, and one of 13 pages.
func planted(t *testing.T) *Store {
	t.Helper()
	s := stored(t, 240, 64)
	for _, b := range plantedTexts() {
		put(t, s, b)
	}
	commit(t, s)
	return s
}

func plantedTexts() [][]byte {
	return [][]byte{[]byte("abc"), []byte(oneOfThree), []byte(twoOfThree), text(6000, 1)}
}

func cacheOf(s *Store) *bcache.Cache {
	return s.FS().Inodes().Map().Cache()
}

func commit(t *testing.T, s *Store) {
	t.Helper()
	wantError(t, "Commit", s.FS().Commit(), api.OK)
}

// put puts bytes that are not there yet.
func put(t *testing.T, s *Store, b []byte) api.Hash {
	t.Helper()
	h, fresh, e := s.Put(b...)
	if h != digest(b) || !fresh || e != api.OK {
		t.Errorf("Put of %d bytes: %x, fresh %v, error %d", len(b), h, fresh, e)
	}
	return h
}

func remove(t *testing.T, s *Store, h api.Hash) {
	t.Helper()
	wantError(t, "Delete", s.Delete(h), api.OK)
}

// pages are all pages as the cache tells them.
func pages(s *Store) [][]byte {
	var all [][]byte
	for n := range cacheOf(s).Log().Pages() {
		b, _ := cacheOf(s).Read(n)
		all = append(all, b)
	}
	return all
}

// wantStill: nothing changes, and nothing that waits for a Commit is kept or forgotten.
func wantStill(t *testing.T, what string, s *Store, call func()) {
	t.Helper()
	was, dirty, ops := pages(s), cacheOf(s).Dirty(), s.FS().Disk().Ops()
	call()
	if !slices.EqualFunc(was, pages(s), bytes.Equal) || !slices.Equal(dirty, cacheOf(s).Dirty()) || ops != s.FS().Disk().Ops() {
		t.Errorf("%s: something has changed", what)
	}
}

// wantBlobs: just these blobs are there, in the files and directories that they must have and in no others, and all is sound.
func wantBlobs(t *testing.T, what string, s *Store, texts ...[]byte) {
	t.Helper()
	want := map[api.Hash][]byte{}
	for _, b := range texts {
		want[digest(b)] = b
	}
	rising := slices.SortedFunc(maps.Keys(want), func(a, b api.Hash) int { return bytes.Compare(a[:], b[:]) })
	list, e := s.List()
	if e != api.OK || !slices.Equal(list, rising) {
		t.Errorf("%s: List: %x, error %d, want %x", what, list, e, rising)
	}
	for h, b := range want {
		got, e := s.Get(h)
		if e != api.OK || !bytes.Equal(got, b) || !s.Has(h) {
			t.Errorf("%s: Get: %d bytes, error %d, want %d; Has: %v", what, len(got), e, len(b), s.Has(h))
		}
	}
	wantTree(t, what, s, want, rising)
	r, e := fsck.Check(s.FS().Inodes())
	if e != api.OK || r.Files != len(want) || r.Links != 0 {
		t.Errorf("%s: Check: %+v, error %d", what, r, e)
	}
}

// wantTree: what a Walk through all of it finds.
func wantTree(t *testing.T, what string, s *Store, blobs map[api.Hash][]byte, rising []api.Hash) {
	t.Helper()
	var shards []api.Found
	var files []api.Found
	in := map[string]int{}
	for _, h := range rising {
		digits := hex.EncodeToString(h[:])
		path := "/blobs/" + digits[:6]
		if in[path] == 0 {
			shards = append(shards, api.Found{Path: path})
		}
		in[path]++
		files = append(files, api.Found{Path: path + "/" + digits[6:], Stat: api.Stat{Kind: api.File, Mode: 292, Links: 1, Size: len(blobs[h])}})
	}
	want := []api.Found{
		{Path: "/", Stat: api.Stat{Kind: api.Dir, Mode: 493, Links: 1, Size: 1}},
		{Path: "/blobs", Stat: api.Stat{Kind: api.Dir, Mode: 493, Links: 1, Size: len(shards)}},
	}
	for _, x := range shards {
		x.Stat = api.Stat{Kind: api.Dir, Mode: 493, Links: 1, Size: in[x.Path]}
		want = append(want, x)
		for _, y := range files {
			if strings.HasPrefix(y.Path, x.Path+"/") {
				want = append(want, y)
			}
		}
	}
	if found, e := s.FS().Walk("/"); e != api.OK || !slices.Equal(found, want) {
		t.Errorf("%s: Walk: %v, error %d, want %v", what, found, e, want)
	}
}

// The example of chapter 10
func TestExample(t *testing.T) {
	s := stored(t, 60, 16)
	h := put(t, s, []byte("abc"))
	const path = "/blobs/ba7816/bf8f01cfea414140de5dae2223b00361a396177a9cb410ff61f20015ad"
	if Path(h) != path {
		t.Errorf("Path: %s", Path(h))
	}
	if b, e := s.FS().Read(path); string(b) != "abc" || e != api.OK {
		t.Errorf("Read: %q, error %d", b, e)
	}
	wantBlobs(t, "abc", s, []byte("abc"))
}

// 'Words', P10.1 (Path): each digit has its place.
func TestPath(t *testing.T) {
	var rising api.Hash
	for i := range rising {
		rising[i] = byte(i*16 + i/2)
	}
	for _, h := range []api.Hash{{}, {0: 0xff, 31: 0xff}, {2: 0x0a, 3: 0xb0}, rising} {
		digits := hex.EncodeToString(h[:])
		if path := Path(h); path != "/blobs/"+digits[:6]+"/"+digits[6:] || len(path) != 72 {
			t.Errorf("Path of %s: %s", digits, path)
		}
	}
}

// P10.1, P10.2 (E3): blobs of all sizes that are edges, and one byte more than MaxBlob.
func TestSizes(t *testing.T) {
	s := stored(t, 300, 64)
	var all [][]byte
	for n, size := range []int{0, 1, 511, 512, 513, 5119, 5120, 5121, 5632, 5633, api.MaxBlob - 1, api.MaxBlob} {
		all = append(all, text(size, n))
		put(t, s, all[n])
		wantBlobs(t, "not committed", s, all...)
		commit(t, s)
	}
	wantBlobs(t, "mounted anew", over(t, mounted(t, s.FS().Disk())), all...)
	wantStill(t, "too long", s, func() {
		for _, size := range []int{api.MaxBlob + 1, api.MaxFile, api.MaxFile + 1, 1 << 20} {
			h, fresh, e := s.Put(text(size, 1)...)
			if h != (api.Hash{}) || fresh || e != api.ErrLong {
				t.Errorf("Put of %d bytes: %x, fresh %v, error %d", size, h, fresh, e)
			}
		}
	})
}

// P10.2: bytes of any kind.
func TestAnyBytes(t *testing.T) {
	s := stored(t, 240, 128)
	all := [][]byte{nil, {0}, {0, 0}, make([]byte, 512), make([]byte, 600), {255}, []byte("/"), []byte("a\x00b\n")}
	for _, b := range all {
		put(t, s, b)
	}
	wantBlobs(t, "any bytes", s, all...)
}

// P10.1 (Put), P10.4: putting twice is putting once, whatever the size; also of a blob that was committed.
func TestTwice(t *testing.T) {
	for _, size := range []int{0, 3, 512, 6000, api.MaxBlob} {
		s := stored(t, 120, 16)
		b := text(size, size)
		h := put(t, s, b)
		for range 2 {
			wantStill(t, "twice", s, func() {
				again, fresh, e := s.Put(b...)
				if again != h || fresh || e != api.OK {
					t.Errorf("Put again: %x, fresh %v, error %d, want %x", again, fresh, e, h)
				}
			})
			commit(t, s)
		}
		wantBlobs(t, "twice", s, b)
		remove(t, s, h)
		put(t, s, b) // it is fresh once more
	}
}

// 'Words', P10.1 (Delete): a directory of 6 digits is there just if it has a blob.
func TestOneDirectoryOfThree(t *testing.T) {
	texts := [][]byte{[]byte(oneOfThree), []byte(twoOfThree), []byte(threeOfThree)}
	for _, order := range [][]int{{0, 1, 2}, {0, 2, 1}, {1, 0, 2}, {1, 2, 0}, {2, 0, 1}, {2, 1, 0}} {
		s := stored(t, 60, 16)
		put(t, s, []byte("abc"))
		for n, k := range order {
			h := put(t, s, texts[k])
			if want := "/blobs/7e1930/"; !strings.HasPrefix(Path(h), want) {
				t.Fatalf("Path: %s, want %s..", Path(h), want)
			}
			if names, e := s.FS().List("/blobs/7e1930"); len(names) != n+1 || e != api.OK {
				t.Errorf("List: %q, error %d", names, e)
			}
		}
		wantBlobs(t, "all three", s, append(texts, []byte("abc"))...)
		left := slices.Clone(texts)
		for n, k := range order {
			remove(t, s, digest(texts[k]))
			left = slices.DeleteFunc(left, func(b []byte) bool { return bytes.Equal(b, texts[k]) })
			wantBlobs(t, "some of three", s, append(slices.Clone(left), []byte("abc"))...)
			if _, e := s.FS().Stat("/blobs/7e1930"); (e == api.ErrNone) != (n == 2) {
				t.Errorf("%d are gone: error %d", n+1, e)
			}
		}
		remove(t, s, digest([]byte("abc")))
		wantBlobs(t, "none", s)
	}
}

// P10.1 (Get, Has, Delete): a digest that is missing: of another directory, of one that is there, and one that was deleted.
func TestMissing(t *testing.T) {
	s := planted(t)
	gone := put(t, s, []byte("gone"))
	remove(t, s, gone)
	for _, h := range []api.Hash{{}, {0: 255}, digest(nil), digest([]byte(threeOfThree)), gone, digest(text(6000, 2))} {
		wantStill(t, "missing", s, func() {
			if b, e := s.Get(h); len(b) != 0 || e != api.ErrNone || s.Has(h) {
				t.Errorf("Get: %d bytes, error %d; Has: %v", len(b), e, s.Has(h))
			}
			wantError(t, "Delete", s.Delete(h), api.ErrNone)
		})
	}
	for _, b := range plantedTexts() {
		h := digest(b)
		for at := range h { // each byte of a digest counts
			h[at] ^= 1
			if _, e := s.Get(h); e != api.ErrNone || s.Has(h) || s.Delete(h) != api.ErrNone {
				t.Errorf("byte %d of a digest: error %d; Has: %v", at, e, s.Has(h))
			}
			h[at] ^= 1
		}
	}
	wantBlobs(t, "all as it was", s, plantedTexts()...)
}

// P10.1 (List): by the digests' bytes, however they were put.
func TestListRises(t *testing.T) {
	s := stored(t, 300, 256)
	var all [][]byte
	for n := range 100 {
		all = append(all, text(1+n%7, n))
		put(t, s, all[n])
		if n%10 == 0 {
			commit(t, s)
		}
	}
	wantBlobs(t, "many", s, all...)
	if list, _ := stored(t, 60, 8).List(); len(list) != 0 {
		t.Errorf("List of none: %x", list)
	}
}

// P10.1 (New): /blobs is made, if it is missing, and is left as it is, if it is a directory; nothing is committed.
func TestNew(t *testing.T) {
	f := made(t, 60, 16)
	ops := f.Disk().Ops()
	s := over(t, f)
	if s.FS() != f {
		t.Error("FS is another one")
	}
	if f.Disk().Ops() != ops {
		t.Error("something was committed")
	}
	wantBlobs(t, "new", s)
	wantStill(t, "once more", s, func() { over(t, f) })
	put(t, s, []byte("abc"))
	wantBlobs(t, "another store of one file system", over(t, f), []byte("abc"))

	f = made(t, 60, 16)
	wantError(t, "Mkdir", f.Mkdir("/blobs", 448), api.OK)
	wantStill(t, "another mode", &Store{shards{f}}, func() { over(t, f) })
	if st, e := f.Stat("/blobs"); st != (api.Stat{Kind: api.Dir, Mode: 448, Links: 1}) || e != api.OK {
		t.Errorf("Stat: %v, error %d", st, e)
	}
}

// P10.1 (New): /blobs that leads to no directory.
func TestNewBroken(t *testing.T) {
	for what, plant := range map[string]func(f *fsys.FS) api.Errno{
		"a file":                func(f *fsys.FS) api.Errno { return f.Write("/blobs", 420) },
		"a link":                func(f *fsys.FS) api.Errno { return f.Symlink("/blobs", "nowhere") },
		"a link to a directory": func(f *fsys.FS) api.Errno { return f.Symlink("/blobs", "d") },
	} {
		f := made(t, 60, 16)
		wantError(t, "Mkdir", f.Mkdir("/d", 493), api.OK)
		wantError(t, what, plant(f), api.OK)
		dirty := cacheOf(&Store{shards{f}}).Dirty()
		if s, e := New(f); s != nil || e != api.ErrBroken {
			t.Errorf("%s: error %d", what, e)
		}
		if !slices.Equal(dirty, cacheOf(&Store{shards{f}}).Dirty()) {
			t.Errorf("%s: something has changed", what)
		}
		wantError(t, "Unlink", f.Unlink("/blobs"), api.OK)
		over(t, f)
	}
}

// P10.1 (Put): the digest is there, and its bytes are others.
func TestDigest(t *testing.T) {
	for _, b := range [][]byte{[]byte("abc"), text(6000, 1), {}} {
		for _, others := range [][]byte{[]byte("abd"), []byte("ab"), []byte("abcd"), append(text(6000, 1), 0), text(5999, 1), {0}, {}} {
			if bytes.Equal(b, others) {
				continue
			}
			s := stored(t, 60, 16)
			h := put(t, s, b)
			wantError(t, "Write", s.FS().Write(Path(h), 292, others...), api.OK)
			wantStill(t, "others", s, func() {
				got, fresh, e := s.Put(b...)
				if got != (api.Hash{}) || fresh || e != api.ErrDigest {
					t.Errorf("Put: %x, fresh %v, error %d", got, fresh, e)
				}
			})
			if b, e := s.Get(h); !bytes.Equal(b, others) || e != api.OK || !s.Has(h) { // it tells what is there
				t.Errorf("Get: %d bytes, error %d; Has: %v", len(b), e, s.Has(h))
			}
			remove(t, s, h)
			put(t, s, b)
			wantBlobs(t, "put anew", s, b)
		}
	}
}

// P10.1: the same bytes, in a file that another call has written, are there.
func TestWrittenByOthers(t *testing.T) {
	s := stored(t, 60, 16)
	h := digest([]byte("abc"))
	for _, e := range []api.Errno{s.FS().Mkdir("/blobs/ba7816", 448), s.FS().Write(Path(h), 420, []byte("abc")...)} {
		wantError(t, "planting", e, api.OK)
	}
	if got, fresh, e := s.Put([]byte("abc")...); got != h || fresh || e != api.OK {
		t.Errorf("Put: %x, fresh %v, error %d", got, fresh, e)
	}
	if list, e := s.List(); !slices.Equal(list, []api.Hash{h}) || e != api.OK {
		t.Errorf("List: %x, error %d", list, e)
	}
	remove(t, s, h)
	wantBlobs(t, "gone", s)
}

// P10.3 (E7): what is put and deleted again leaves as many pages and inodes free as there were, however many blobs there are.
func TestPutAndDeletedAgain(t *testing.T) {
	s := stored(t, 240, 128)
	for n := range 40 {
		p, i := s.FS().Free()
		more := [][]byte{text(api.MaxBlob, n), []byte(oneOfThree), []byte(twoOfThree), {}, text(600, n)}
		for _, b := range more {
			put(t, s, b)
		}
		commit(t, s)
		for k := range more {
			remove(t, s, digest(more[(k+n)%len(more)]))
		}
		if q, j := s.FS().Free(); p != q || i != j {
			t.Errorf("beside %d blobs: %d pages and %d inodes are free, want %d and %d", n, q, j, p, i)
		}
		commit(t, s)
		put(t, s, text(1+n, n))
	}
}
