package dir

import (
	"bytes"
	"slices"
	"testing"

	"dunnage/api"
	"dunnage/inode"
)

// crowded is a committed store whose inode 1 has so many names, all of them of inode 2.
func crowded(t *testing.T, pages, names int) *inode.Store {
	t.Helper()
	s := stored(t, pages)
	for n := range names {
		add(t, s, 2, numbered(n))
		if n%64 == 63 {
			commit(t, s)
		}
	}
	commit(t, s)
	return s
}

// P7.1, P7.2, P7.3: as long as a file may be, and one name more.
func TestLongestDirectory(t *testing.T) {
	s := crowded(t, 160, mostNames)
	if node, _ := s.Get(1); node.Size != api.MaxFile {
		t.Errorf("size %d", node.Size)
	}
	wantStill(t, "one name more", s, func() {
		wantError(t, "Add", Add(s, 1, "more", 2), api.ErrLong)
		wantError(t, "Add of a known one", Add(s, 1, numbered(mostNames-1), 2), api.ErrKnown)
		wantError(t, "Add of a wrong number", Add(s, 1, "more", 0), api.ErrRange)
		wantError(t, "Add of no name", Add(s, 1, "", 2), api.ErrName)
	})
	names, e := List(s, 1)
	if len(names) != mostNames || e != api.OK || !slices.IsSorted(names) || names[mostNames-1] != numbered(mostNames-1) {
		t.Errorf("List: %d names, error %d", len(names), e)
	}
	drop(t, s, 2, numbered(500))
	add(t, s, 3, "more")
	wantFound(t, s, "more", 3)
	if b, _ := s.Read(1, 500*api.EntryBytes, api.EntryBytes); !bytes.Equal(b, bytesOf(3, "more")) {
		t.Errorf("entry 500 is % x", b)
	}
	wantError(t, "Add", Add(s, 1, "yet more", 2), api.ErrLong)
}

// P7.5: what is added and dropped again leaves as many pages free as there were, however many names there are.
func TestAddedAndDroppedAgain(t *testing.T) {
	for names := range 100 {
		s := crowded(t, 60, names)
		for _, more := range []int{1, 7, 8, 9, 17} {
			free, inodes := s.Map().Free()
			for n := range more {
				add(t, s, 3, numbered(1000+n))
			}
			for n := range more {
				drop(t, s, 3, numbered(1000+(n+names)%more))
			}
			if p, i := s.Map().Free(); p != free || i != inodes {
				t.Errorf("%d names beside %d: %d pages are free, want %d", more, names, p, free)
			}
		}
		if names > 0 {
			wantFound(t, s, numbered(0), 2)
			wantFound(t, s, numbered(names-1), 2)
		}
	}
}

// P7.5 (E7): also where entries are free between the others.
func TestAddedAndDroppedBetween(t *testing.T) {
	for gap := range 30 {
		s := crowded(t, 60, 30)
		drop(t, s, 2, numbered(gap))
		drop(t, s, 2, numbered((gap+9)%30))
		free, _ := s.Map().Free()
		for n := range 12 {
			add(t, s, 3, numbered(1000+n))
		}
		for n := range 12 {
			drop(t, s, 3, numbered(1011-n))
		}
		if p, _ := s.Map().Free(); p != free {
			t.Errorf("free entries %d and %d: %d pages are free, want %d", gap, (gap+9)%30, p, free)
		}
	}
}

// What is dropped gives back the pages at the end, as soon as they have no name (E7), and no name with them.
func TestPagesAtTheEnd(t *testing.T) {
	s := crowded(t, 60, 33) // of the fifth page one entry
	for _, x := range []struct{ name, size int }{
		{24, 33 * 64}, {31, 33 * 64}, {32, 4 * 512}, {30, 4 * 512}, {29, 4 * 512}, {0, 4 * 512}, {28, 4 * 512}, {27, 4 * 512}, {26, 4 * 512},
		{25, 3 * 512}, {8, 3 * 512}, {23, 3 * 512},
	} {
		drop(t, s, 2, numbered(x.name))
		if node, _ := s.Get(1); node.Size != x.size {
			t.Errorf("behind %d: %d bytes, want %d", x.name, node.Size, x.size)
		}
	}
	if names, _ := List(s, 1); len(names) != 21 {
		t.Errorf("List: %q", names)
	}
	add(t, s, 7, "a", "b", "c", "d")
	if b, _ := s.Read(1, 24*64, 64); !bytes.Equal(b, bytesOf(10, "d")) {
		t.Errorf("entry 24 is % x", b)
	}
}

// change is a call that may find no room.
type change struct {
	what  string
	names int // that there are ahead of it, numbered from 0 on
	call  func(s *inode.Store) api.Errno
}

func changes() []change {
	drop := func(n int) func(s *inode.Store) api.Errno {
		return func(s *inode.Store) api.Errno { return second(Drop(s, 1, numbered(n))) }
	}
	add := func(s *inode.Store) api.Errno { return Add(s, 1, "new", 3) }
	return []change{
		{"the first name", 0, add},
		{"a name in a page", 5, add},
		{"a name in a new page", 8, add},
		{"a name behind Direct", 80, add},
		{"a name in the indirect page", 96, add},
		{"Drop in the midst", 20, drop(3)},
		{"Drop at the end", 20, drop(19)},
		{"Drop of a page", 17, drop(16)},
		{"Drop of the indirect page", 81, drop(80)},
		{"Drop behind Direct", 97, drop(96)},
		{"Drop of the last name", 1, drop(0)},
	}
}

// P7.1 (ErrFull): with each room, from none on: done whole, or all since the last Commit is forgotten.
func TestNoRoomInTheCache(t *testing.T) {
	for _, x := range changes() {
		s := crowded(t, 240, x.names)
		last := all(s)
		wantError(t, x.what, x.call(s), api.OK)
		done, needs := all(s), len(cacheOf(s).Dirty())
		cacheOf(s).Abort()
		for room := range needs + 1 {
			for n := 239; cacheOf(s).Room() > room; n-- { // pages that no change of these takes
				wantError(t, "Write", cacheOf(s).Write(n, bytes.Repeat([]byte{7}, api.SectorBytes)...), api.OK)
			}
			e := x.call(s)
			if room == needs {
				wantError(t, x.what+" with just enough room", e, api.OK)
				if !slices.EqualFunc(all(s)[:100], done[:100], bytes.Equal) {
					t.Errorf("%s with just enough room: other pages", x.what)
				}
				continue
			}
			wantError(t, x.what+" with too little room", e, api.ErrFull)
			if len(cacheOf(s).Dirty()) != 0 || !slices.EqualFunc(all(s), last, bytes.Equal) {
				t.Errorf("%s: not as at the last Commit", x.what)
			}
		}
	}
}

// P7.1: no page is free, or one where two are asked for; a name in a free entry needs none.
func TestNoPageLeft(t *testing.T) {
	for _, x := range []struct{ names, pages int }{{0, 1}, {8, 1}, {80, 2}, {88, 1}} {
		for free := range x.pages + 1 {
			s := crowded(t, 60, x.names)
			for p, _ := s.Map().Free(); p > free; p-- {
				wantError(t, "Page", second(s.Map().Page()), api.OK)
			}
			commit(t, s)
			last := all(s)
			wantError(t, "Set", s.Set(2, 7, 7), api.OK)
			e := Add(s, 1, "new", 3)
			if free == x.pages {
				wantError(t, "Add with the last page", e, api.OK)
				wantFound(t, s, "new", 3)
				drop(t, s, 3, "new")
				continue
			}
			wantError(t, "Add", e, api.ErrFull)
			if !slices.EqualFunc(all(s), last, bytes.Equal) {
				t.Error("Add: not as at the last Commit")
			}
			if x.names > 0 {
				drop(t, s, 2, numbered(0))
				add(t, s, 3, "new")
			}
		}
	}
}

// P2: other errors come first, and forget nothing.
func TestErrorsAheadOfNoRoom(t *testing.T) {
	s := crowded(t, 240, 8)
	wantError(t, "Set", s.Set(2, 7, 7), api.OK)
	for n := 239; cacheOf(s).Room() > 0; n-- {
		wantError(t, "Write", cacheOf(s).Write(n, make([]byte, api.SectorBytes)...), api.OK)
	}
	wantStill(t, "no room", s, func() {
		wantError(t, "Add", Add(s, 1, numbered(3), 2), api.ErrKnown)
		wantError(t, "Add", Add(s, 1, "x", 0), api.ErrRange)
		wantError(t, "Add", Add(s, 1, "/", 2), api.ErrName)
		wantError(t, "Add", Add(s, 2, "x", 2), api.ErrDir)
		wantError(t, "Drop", second(Drop(s, 1, "x")), api.ErrNone)
		wantError(t, "Drop", second(Drop(s, 1, "")), api.ErrName)
		wantError(t, "Find", second(Find(s, 1, numbered(3))), api.OK)
		wantError(t, "List", second(List(s, 1)), api.OK)
	})
}
