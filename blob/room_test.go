package blob

import (
	"bytes"
	"slices"
	"strconv"
	"testing"

	"dunnage/api"
	"dunnage/fsys"
)

// step is a call that may find no room, on what planted made, and the blobs that are there behind it.
type step struct {
	what string
	do   func(s *Store) api.Errno
	now  [][]byte
}

func third[T, U any](_ T, _ U, e api.Errno) api.Errno {
	return e
}

func putting(what string, b []byte) step {
	return step{what, func(s *Store) api.Errno { return third(s.Put(b...)) }, append(plantedTexts(), b)}
}

func deleting(what string, k int) step {
	return step{what, func(s *Store) api.Errno { return s.Delete(digest(plantedTexts()[k])) }, slices.Delete(plantedTexts(), k, k+1)}
}

func changes() []step {
	return []step{
		putting("Put in a new directory", text(700, 7)),
		putting("Put in one that is there", []byte(threeOfThree)),
		putting("Put of nothing", nil),
		putting("Put behind Direct", text(5700, 7)),
		deleting("Delete of a directory's only one", 0),
		deleting("Delete of one of two", 1),
		deleting("Delete of the other one of two", 2),
		deleting("Delete of a long one", 3),
	}
}

func longest() step {
	return putting("Put of the longest one", text(api.MaxBlob, 7))
}

// crowd writes pages that nobody has, from the last one down, till the cache has so much room left.
func crowd(t *testing.T, s *Store, room int) {
	t.Helper()
	c := cacheOf(s)
	for n := c.Log().Pages() - 1; c.Room() > room; n-- {
		wantError(t, "Write", c.Write(n, bytes.Repeat([]byte{7}, api.SectorBytes)...), api.OK)
	}
}

func wantForgotten(t *testing.T, what string, s *Store, last [][]byte) {
	t.Helper()
	if len(cacheOf(s).Dirty()) != 0 || !slices.EqualFunc(pages(s), last, bytes.Equal) {
		t.Errorf("%s: not as at the last Commit", what)
	}
}

// P10.1 (ErrFull): too much since the last Commit. With each room, from none on, a change is done whole,
// or all since the last Commit is forgotten: what was done ahead of it, too.
func TestTooMuchSinceTheLastCommit(t *testing.T) {
	ahead := []byte("ahead")
	for _, x := range append(changes(), longest()) {
		for _, behind := range []bool{false, true} {
			s, what, now := planted(t), x.what, x.now
			last := pages(s)
			first := func() {
				if behind {
					put(t, s, ahead)
				}
			}
			if behind {
				what, now = what+" behind a Put", append(slices.Clone(now), ahead)
			}
			first()
			room := cacheOf(s).Room()
			wantError(t, what, x.do(s), api.OK)
			needs := room - cacheOf(s).Room()
			wantBlobs(t, what, s, now...)
			wantError(t, "Abort", s.FS().Abort(), api.OK)
			wantBlobs(t, "Abort", s, plantedTexts()...)
			for room := range needs {
				first()
				crowd(t, s, room)
				wantError(t, what+" with too little room", x.do(s), api.ErrFull)
				wantForgotten(t, what, s, last)
			}
			wantBlobs(t, "forgotten", s, plantedTexts()...)
			first()
			crowd(t, s, needs)
			wantError(t, what+" with just enough room", x.do(s), api.OK)
			if cacheOf(s).Room() != 0 {
				t.Errorf("%s: a room of %d is left", what, cacheOf(s).Room())
			}
			wantBlobs(t, what, s, now...)
		}
	}
}

// P2: with an error every other result is the zero value.
func TestNothingBesideAnError(t *testing.T) {
	s := planted(t)
	crowd(t, s, 0)
	if h, fresh, e := s.Put('x'); h != (api.Hash{}) || fresh || e != api.ErrFull {
		t.Errorf("Put: %x, fresh %v, error %d", h, fresh, e)
	}
	f := made(t, 240, 16)
	crowd(t, &Store{shards{f}}, 0)
	if s, e := New(f); s != nil || e != api.ErrFull {
		t.Errorf("New: error %d", e)
	}
}

// P2: other errors come first, and forget nothing; so does what changes nothing.
func TestErrorsAheadOfNoRoom(t *testing.T) {
	s := planted(t)
	put(t, s, []byte("ahead"))
	wantError(t, "Write", s.FS().Write(Path(digest([]byte("abc"))), 292, 'x'), api.OK)
	crowd(t, s, 0)
	wantStill(t, "no room", s, func() {
		wantError(t, "New", second(New(s.FS())), api.OK)
		wantError(t, "Put of too long a one", third(s.Put(text(api.MaxBlob+1, 1)...)), api.ErrLong)
		wantError(t, "Put of others", third(s.Put([]byte("abc")...)), api.ErrDigest)
		wantError(t, "Put again", third(s.Put([]byte(oneOfThree)...)), api.OK)
		wantError(t, "Delete", s.Delete(api.Hash{}), api.ErrNone)
		wantError(t, "Get", second(s.Get(api.Hash{})), api.ErrNone)
		wantError(t, "Get", second(s.Get(digest([]byte("ahead")))), api.OK)
		wantError(t, "List", second(s.List()), api.OK)
	})
}

// hoard lets just so many pages and inodes be free; what is hoarded is committed.
func hoard(t *testing.T, s *Store, freePages, freeInodes int) {
	t.Helper()
	m := s.FS().Inodes().Map()
	for p, _ := s.FS().Free(); p > freePages; p-- {
		wantError(t, "Page", second(m.Page()), api.OK)
		if cacheOf(s).Room() == 0 {
			commit(t, s)
		}
	}
	for _, i := s.FS().Free(); i > freeInodes; i-- {
		wantError(t, "Inode", second(m.Inode()), api.OK)
	}
	commit(t, s)
}

// P10.1 (ErrFull): pages and inodes. With each number of free ones, from none to just enough.
func TestNoPageAndNoInode(t *testing.T) {
	for _, x := range append(changes(), longest()) {
		s := planted(t)
		p, i := s.FS().Free()
		wantError(t, x.what, x.do(s), api.OK)
		q, j := s.FS().Free()
		needPages, needInodes := max(p-q, 0), max(i-j, 0)
		for n := range needPages {
			wantDoneWith(t, x, n, needInodes, api.ErrFull)
		}
		for n := range needInodes {
			wantDoneWith(t, x, needPages, n, api.ErrFull)
		}
		wantDoneWith(t, x, needPages, needInodes, api.OK)
	}
}

// wantDoneWith: a change with just so many free pages and inodes.
func wantDoneWith(t *testing.T, x step, freePages, freeInodes int, want api.Errno) {
	t.Helper()
	s := planted(t)
	hoard(t, s, freePages, freeInodes)
	last := pages(s)
	wantError(t, "Set", s.FS().Inodes().Set(1, 7, 1), api.OK) // something that may be forgotten
	wantError(t, x.what, x.do(s), want)
	if want != api.OK {
		wantForgotten(t, x.what, s, last)
		return
	}
	if list, e := s.List(); len(list) != len(x.now) || e != api.OK {
		t.Errorf("%s with just enough: %x, error %d", x.what, list, e)
	}
}

// P10.1 (New): without room for /blobs nothing is there that was done since the last Commit.
func TestNoRoomForNew(t *testing.T) {
	f := made(t, 240, 16)
	whole := over(t, f)
	needs := len(cacheOf(whole).Dirty())
	wantError(t, "Abort", f.Abort(), api.OK)
	last := pages(whole)
	for room := range needs + 1 {
		crowd(t, whole, room)
		s, e := New(f)
		if room == needs {
			if s == nil || e != api.OK {
				t.Errorf("New with just enough room: error %d", e)
			}
			wantBlobs(t, "New with just enough room", s)
			continue
		}
		if s != nil || e != api.ErrFull {
			t.Errorf("New with a room of %d: error %d", room, e)
		}
		wantForgotten(t, "New", whole, last)
	}
	for _, x := range []struct{ pages, inodes int }{{0, 1}, {1, 0}, {1, 1}} {
		s := &Store{shards{made(t, 60, 16)}}
		hoard(t, s, x.pages, x.inodes)
		want := api.ErrFull
		if x.pages == 1 && x.inodes == 1 {
			want = api.OK
		}
		wantError(t, "New", second(New(s.FS())), want)
	}
}

// P10.1: where New's /blobs was not committed, and is forgotten, the store goes on: nothing is there, and what is put is.
func TestHomeForgotten(t *testing.T) {
	for _, forget := range []func(s *Store) api.Errno{
		func(s *Store) api.Errno { return s.FS().Abort() },
		func(s *Store) api.Errno { crowd(t, s, 0); s.Put('x'); return api.OK },
		func(s *Store) api.Errno { return s.FS().Rmdir("/blobs") },
	} {
		s := over(t, made(t, 240, 16))
		wantError(t, "forgetting", forget(s), api.OK)
		wantStill(t, "no /blobs", s, func() {
			if _, e := s.FS().Stat("/blobs"); e != api.ErrNone {
				t.Errorf("Stat: error %d", e)
			}
			if list, e := s.List(); len(list) != 0 || e != api.OK || s.Has(digest(nil)) {
				t.Errorf("List: %x, error %d", list, e)
			}
			wantError(t, "Get", second(s.Get(digest(nil))), api.ErrNone)
			wantError(t, "Delete", s.Delete(digest(nil)), api.ErrNone)
		})
		commit(t, s)
		last := pages(s)
		put(t, s, []byte("abc"))
		wantBlobs(t, "Put", s, []byte("abc"))
		needs := len(cacheOf(s).Dirty())
		wantError(t, "Abort", s.FS().Abort(), api.OK)
		for room := range needs {
			crowd(t, s, room)
			wantError(t, "Put with too little room", third(s.Put([]byte("abc")...)), api.ErrFull)
			wantForgotten(t, "Put", s, last)
		}
	}
}

// P10.1: as many blobs as there are inodes, and one more.
func TestAllInodes(t *testing.T) {
	s := stored(t, 120, 32) // 0, the root and /blobs leave 29, two a blob
	var all [][]byte
	for n := range 14 {
		all = append(all, []byte(strconv.Itoa(n)))
		put(t, s, all[n])
		commit(t, s)
	}
	wantError(t, "one more", third(s.Put('x')), api.ErrFull)
	wantBlobs(t, "14 blobs", s, all...)
	remove(t, s, digest(all[3]))
	put(t, s, []byte("x"))
}

// crowded is a store in whose /blobs there are as many names as a directory may have, none of them a blob's.
func crowded(t *testing.T) *Store {
	t.Helper()
	f := made(t, 300, 16)
	wantError(t, "Write", f.Write("/f", 420), api.OK)
	s := over(t, f)
	for n := range api.MaxFile / api.EntryBytes {
		wantError(t, "Link", f.Link("/f", "/blobs/"+strconv.Itoa(n)), api.OK)
		if n%64 == 0 {
			commit(t, s)
		}
	}
	commit(t, s)
	return s
}

// P1: names that others have put there do no harm: a directory that is full, a file or a directory in a blob's place.
func TestNamesOfOthers(t *testing.T) {
	s := crowded(t)
	wantStill(t, "a full directory", s, func() {
		wantError(t, "Put", third(s.Put('x')), api.ErrLong)
		if list, e := s.List(); len(list) != 0 || e != api.OK {
			t.Errorf("List: %x, error %d", list, e)
		}
	})
	h := digest([]byte("abc"))
	digits := Path(h)[len("/blobs/"):]
	for _, plant := range []func(f *fsys.FS) api.Errno{
		func(f *fsys.FS) api.Errno { return f.Write("/blobs/ba7816", 420) },
		func(f *fsys.FS) api.Errno { return f.Symlink("/blobs/ba7816", "x") },
		func(f *fsys.FS) api.Errno { f.Mkdir("/blobs/ba7816", 493); return f.Mkdir(Path(h), 493) },
		func(f *fsys.FS) api.Errno { f.Mkdir("/blobs/ba7816", 493); return f.Symlink(Path(h), "x") },
	} {
		s := stored(t, 60, 16)
		wantError(t, "planting", plant(s.FS()), api.OK)
		wantStill(t, "no file in a blob's place", s, func() {
			if got, fresh, e := s.Put([]byte("abc")...); got != (api.Hash{}) || fresh || e == api.OK || e == api.ErrFull {
				t.Errorf("Put: %x, fresh %v, error %d", got, fresh, e)
			}
			wantError(t, "Get", second(s.Get(h)), api.ErrNone)
			wantError(t, "Delete", s.Delete(h), api.ErrNone)
			if list, _ := s.List(); len(list) != 0 || s.Has(h) {
				t.Errorf("List: %x", list)
			}
		})
	}
	s = stored(t, 60, 32)
	put(t, s, []byte("abc"))
	for _, path := range []string{"/blobs/x", "/blobs/ba7816/x", "/blobs/ba781", "/blobs/BA7816"} {
		wantError(t, "Write", s.FS().Write(path, 420, 'x'), api.OK)
	}
	for _, path := range []string{"/blobs/ba", "/blobs/ba7816bf", "/blobs/aaaaaa"} { // digits that are cut at another place
		wantError(t, "Mkdir", s.FS().Mkdir(path, 493), api.OK)
	}
	wantError(t, "Write", s.FS().Write("/blobs/ba7816bf/"+digits[9:], 292, 'x'), api.OK)
	wantError(t, "Mkdir", s.FS().Mkdir("/blobs/aaaaaa/"+digits[7:], 493), api.OK)
	if list, e := s.List(); !slices.Equal(list, []api.Hash{h}) || e != api.OK {
		t.Errorf("List: %x, error %d", list, e)
	}
	remove(t, s, h)
	if names, _ := s.FS().List("/blobs/ba7816"); !slices.Equal(names, []string{"x"}) {
		t.Errorf("what others have put beside a blob: %q", names)
	}
}
