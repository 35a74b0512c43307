package inode

import (
	"bytes"
	"slices"
	"testing"

	"dunnage/api"
)

// change is a call that may find no room; the store has a file of 6000 bytes (inode 1) and an empty one (inode 2).
type change struct {
	what string
	call func(s *Store) api.Errno
}

func changes() []change {
	return []change{
		{"Make", func(s *Store) api.Errno { return second(s.Make(api.Dir, 493)) }},
		{"Set", func(s *Store) api.Errno { return s.Set(1, 7, 7) }},
		{"Set to what it is", func(s *Store) api.Errno { return s.Set(1, 420, 1) }},
		{"Drop", func(s *Store) api.Errno { return s.Drop(1) }},
		{"Drop of an empty one", func(s *Store) api.Errno { return s.Drop(2) }},
		{"Write over", func(s *Store) api.Errno { return s.Write(1, 100, text(3000, 9)...) }},
		{"Write behind the end", func(s *Store) api.Errno { return s.Write(1, 6001, text(1500, 9)...) }},
		{"Write of a new file", func(s *Store) api.Errno { return s.Write(2, 0, text(9000, 9)...) }},
		{"Write far behind", func(s *Store) api.Errno { return s.Write(2, 5120, 1) }},
		{"Resize up", func(s *Store) api.Errno { return s.Resize(2, 5633) }},
		{"Resize within a page", func(s *Store) api.Errno { return s.Resize(1, 6100) }},
		{"Resize from the middle of a page", func(s *Store) api.Errno { return s.Resize(1, 7000) }},
		{"Resize down", func(s *Store) api.Errno { return s.Resize(1, 5700) }},
		{"Resize to a part of a page", func(s *Store) api.Errno { return s.Resize(1, 5122) }},
		{"Resize to nothing", func(s *Store) api.Errno { return s.Resize(1, 0) }},
	}
}

// ahead are what may have been done since the last Commit, so that a change finds some of its pages written already.
func ahead() []change {
	return []change{
		{"nothing", func(s *Store) api.Errno { return api.OK }},
		{"a Set", func(s *Store) api.Errno { return s.Set(2, 7, 1) }},
		{"a Make", func(s *Store) api.Errno { return second(s.Make(api.Link, 511)) }},
		{"a Write", func(s *Store) api.Errno { return s.Write(1, 5999, 1) }},
		{"a Resize", func(s *Store) api.Errno { return s.Resize(2, 600) }},
	}
}

const spare = 120 // pages from here on no change of these takes

// begun is a store with something done since the last Commit, and how its pages were at that Commit.
func begun(t *testing.T, first change) (*Store, [][]byte) {
	t.Helper()
	s := stored(t, 240, 8)
	newFile(t, s, text(6100, 1))
	wantError(t, "Resize", s.Resize(1, 6000), api.OK) // so that the last page has something behind the size
	made(t, s, api.File, 1)
	commit(t, s)
	last := all(s)
	wantError(t, first.what, first.call(s), api.OK)
	return s, last
}

// crowd writes others' pages till the cache has so much room left.
func crowd(t *testing.T, s *Store, room int) {
	t.Helper()
	for n := spare; cacheOf(s).Room() > room; n++ {
		wantError(t, "Write", cacheOf(s).Write(n, full(n)...), api.OK)
	}
}

func wantForgotten(t *testing.T, what string, s *Store, last [][]byte) {
	t.Helper()
	if len(cacheOf(s).Dirty()) != 0 || !slices.EqualFunc(all(s), last, bytes.Equal) {
		t.Errorf("%s: not as at the last Commit", what)
	}
}

// 'No room', P6.1, P6.2: with each room, from none on: done whole, or all since the last Commit is forgotten.
func TestNoRoomInTheCache(t *testing.T) {
	for _, first := range ahead() {
		for _, x := range changes() {
			what := x.what + " behind " + first.what
			whole, _ := begun(t, first)
			room := cacheOf(whole).Room()
			wantError(t, what, x.call(whole), api.OK)
			needs := room - cacheOf(whole).Room()
			for room := range needs {
				s, last := begun(t, first)
				crowd(t, s, room)
				wantError(t, what+" with too little room", x.call(s), api.ErrFull)
				wantForgotten(t, what, s, last)
			}
			s, _ := begun(t, first)
			crowd(t, s, needs)
			wantError(t, what+" with just enough room", x.call(s), api.OK)
			if cacheOf(s).Room() != 0 || !slices.EqualFunc(all(s)[:spare], all(whole)[:spare], bytes.Equal) {
				t.Errorf("%s with just enough room: other pages", what)
			}
			wantSound(t, s)
		}
	}
}

// 'No room': what was done ahead of the call, since the last Commit, is forgotten with it.
func TestNoRoomForgetsAll(t *testing.T) {
	s, last := begun(t, ahead()[0])
	wantError(t, "Write", s.Write(1, 0, 1, 2, 3), api.OK)
	i := made(t, s, api.Link, 511)
	wantError(t, "Drop", s.Drop(2), api.OK)
	wantError(t, "Write", s.Write(i, 0, text(api.MaxFile, 1)...), api.ErrFull) // more pages than a group may have
	wantError(t, "Get", second(s.Get(i)), api.ErrNone)
	wantError(t, "Get", second(s.Get(2)), api.OK)
	wantForgotten(t, "Write", s, last)
}

// 'No room': a page is missing, at each place of a file that grows; with all that is free it has just enough.
func TestNoPageLeft(t *testing.T) {
	grow := []change{
		{"Write", func(s *Store) api.Errno { return s.Write(1, 0, text(6000, 1)...) }},
		{"Write far behind", func(s *Store) api.Errno { return s.Write(1, 5999, 1) }},
		{"Resize", func(s *Store) api.Errno { return s.Resize(1, 6000) }},
	}
	for _, x := range grow {
		for free := 1; free <= Need(6000); free++ {
			s := stored(t, 4+free, 8)
			made(t, s, api.File, 420)
			commit(t, s)
			last := all(s)
			made(t, s, api.Dir, 493)
			e := x.call(s)
			if free == Need(6000) {
				wantError(t, x.what+" of all pages", e, api.OK)
				if p, i := s.Map().Free(); p != 0 || i != 5 {
					t.Errorf("%d pages and %d inodes are free", p, i)
				}
				wantSound(t, s)
				continue
			}
			wantError(t, x.what, e, api.ErrFull)
			wantForgotten(t, x.what, s, last)
		}
	}
}

// P2: other errors come first, and forget nothing.
func TestErrorsAheadOfNoRoom(t *testing.T) {
	s, _ := begun(t, ahead()[0])
	crowd(t, s, 0)
	wantStill(t, "no room", s, func() {
		wantError(t, "Make", second(s.Make(api.NoKind, 1)), api.ErrRange)
		wantError(t, "Set", s.Set(1, 4096, 1), api.ErrRange)
		wantError(t, "Set", s.Set(3, 1, 1), api.ErrNone)
		wantError(t, "Drop", s.Drop(3), api.ErrNone)
		wantError(t, "Write", s.Write(1, -1, 1), api.ErrRange)
		wantError(t, "Write", s.Write(1, api.MaxFile, 1), api.ErrLong)
		wantError(t, "Write of nothing", s.Write(1, 9000), api.OK)
		wantError(t, "Resize", s.Resize(1, -1), api.ErrRange)
		wantError(t, "Resize", s.Resize(1, api.MaxFile+1), api.ErrLong)
		wantError(t, "Resize to what it is", s.Resize(1, 6000), api.OK)
		wantError(t, "Read", second(s.Read(1, 0, 6000)), api.OK)
		wantError(t, "Pages", second(s.Pages(1)), api.OK)
	})
}
