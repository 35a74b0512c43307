package gc

import (
	"bytes"
	"slices"
	"testing"

	"dunnage/api"
	"dunnage/fsys"
)

// step is a call that may find no room, on what planted made, and the same of the model.
type step struct {
	what  string
	do    func(s *Store) api.Errno
	model func(m *model) api.Errno
}

func putting(t *testing.T, what string, b []byte) step {
	return step{what, func(s *Store) api.Errno {
		h, e := s.Put(b...)
		if e == api.OK && h != digest(b) || e != api.OK && h != (api.Hash{}) {
			t.Errorf("%s: %x, error %d", what, h, e)
		}
		return e
	}, func(m *model) api.Errno { return m.put(b) }}
}

func releasing(what string, b []byte) step {
	return step{what, func(s *Store) api.Errno { return s.Release(digest(b)) }, func(m *model) api.Errno { return m.release(digest(b)) }}
}

func tagging(what, word string, b []byte) step {
	return step{what, func(s *Store) api.Errno { return s.Tag(word, digest(b)) }, func(m *model) api.Errno { return m.tag(word, digest(b)) }}
}

func untagging(what, word string) step {
	return step{what, func(s *Store) api.Errno { return s.Untag(word) }, func(m *model) api.Errno { return m.untag(word) }}
}

func pinning(what, word, tag string) step {
	return step{what, func(s *Store) api.Errno { return s.Pin(word, tag) }, func(m *model) api.Errno { return m.pin(word, tag) }}
}

func unpinning(what, word string) step {
	return step{what, func(s *Store) api.Errno { return s.Unpin(word) }, func(m *model) api.Errno { return m.unpin(word) }}
}

// steps are changes of each kind, none of which has an error where there is room.
func steps(t *testing.T) []step {
	t.Helper()
	return []step{
		putting(t, "Put of a new one", text(1200, 5)),
		putting(t, "Put of nothing", nil),
		putting(t, "Put of one that is there", plainText()),
		releasing("Release of the last one", plainText()),
		releasing("Release of what a tag refers to", oneLayer(t)),
		tagging("Tag of a new word", "new", oneImage(t)),
		tagging("Tag of what names a layer thrice", longWord(24), thriceImage(t)),
		tagging("Tag that moves", "z", oneImage(t)),
		tagging("Tag that stays", "x", oneImage(t)),
		untagging("Untag of one of two", "x"),
		untagging("Untag of the only one", "z"),
		pinning("Pin of one layer", "new", "x"),
		pinning("Pin of two layers", longWord(24), "z"),
		unpinning("Unpin", "p"),
	}
}

// crowd writes pages that nobody has, from the last one down, till the cache has so much room left.
func crowd(t *testing.T, s *Store, room int) {
	t.Helper()
	c := cacheOf(s)
	for n := c.Log().Pages() - 1; c.Room() > room; n-- {
		wantError(t, "Write", c.Write(n, bytes.Repeat([]byte{7}, api.SectorBytes)...), api.OK)
	}
}

func wantForgotten(t *testing.T, what string, f *fsys.FS, last [][]byte) {
	t.Helper()
	if len(f.Inodes().Map().Cache().Dirty()) != 0 || !slices.EqualFunc(pages(f), last, bytes.Equal) {
		t.Errorf("%s: not as at the last Commit", what)
	}
}

// P15.1, P15.2 (ErrFull): too much since the last Commit. With each room, from none on, a change is done whole,
// or all since the last Commit is forgotten: what was done ahead of it, too.
func TestTooMuchSinceTheLastCommit(t *testing.T) {
	ahead := []byte("ahead")
	for _, x := range steps(t) {
		for _, waits := range []bool{false, true} {
			s, m := planted(t)
			last, what := pages(files(s)), x.what
			first := func() {
				if waits {
					put(t, s, ahead)
				}
			}
			first()
			room := cacheOf(s).Room()
			wantError(t, what, x.do(s), api.OK)
			needs := room - cacheOf(s).Room()
			wantError(t, "Abort", s.Abort(), api.OK)
			wantModel(t, what+", Abort", s, m)
			for room := range needs {
				first()
				crowd(t, s, room)
				wantError(t, what+" with too little room", x.do(s), api.ErrFull)
				wantForgotten(t, what, files(s), last)
			}
			wantModel(t, what+", forgotten", s, m)
			first()
			crowd(t, s, needs)
			wantError(t, what+" with just enough room", x.do(s), api.OK)
			if cacheOf(s).Room() != 0 {
				t.Errorf("%s: a room of %d is left", what, cacheOf(s).Room())
			}
			if waits {
				m.put(ahead)
			}
			wantError(t, what, x.model(m), api.OK)
			wantModel(t, what, s, m)
		}
	}
}

// hoard lets just so many pages and inodes be free; what is hoarded is committed.
func hoard(t *testing.T, f *fsys.FS, freePages, freeInodes int) {
	t.Helper()
	m := f.Inodes().Map()
	for p, _ := f.Free(); p > freePages; p-- {
		wantError(t, "Page", second(m.Page()), api.OK)
		if m.Cache().Room() == 0 {
			wantError(t, "Commit", f.Commit(), api.OK)
		}
	}
	for _, i := f.Free(); i > freeInodes; i-- {
		wantError(t, "Inode", second(m.Inode()), api.OK)
	}
	wantError(t, "Commit", f.Commit(), api.OK)
}

// P15.1, P15.2 (ErrFull): pages and inodes. With each number of free ones, from none to just enough;
// what only takes something away needs none.
func TestNoPageAndNoInode(t *testing.T) {
	for _, x := range steps(t) {
		s, _ := planted(t)
		p, i := files(s).Free()
		wantError(t, x.what, x.do(s), api.OK)
		q, j := files(s).Free()
		needPages, needInodes := max(p-q, 0), max(i-j, 0)
		for n := range needPages {
			wantDoneWith(t, x, n, needInodes, api.ErrFull)
		}
		for n := range needInodes {
			wantDoneWith(t, x, needPages, n, api.ErrFull)
		}
		wantDoneWith(t, x, needPages, needInodes, api.OK)
	}
}

// wantDoneWith: a change with just so many free pages and inodes.
func wantDoneWith(t *testing.T, x step, freePages, freeInodes int, want api.Errno) {
	t.Helper()
	s, m := planted(t)
	hoard(t, files(s), freePages, freeInodes)
	last := pages(files(s))
	wantError(t, "Set", files(s).Inodes().Set(1, 7, 1), api.OK) // something that may be forgotten
	wantError(t, x.what, x.do(s), want)
	if want != api.OK {
		wantForgotten(t, x.what, files(s), last)
	} else {
		wantError(t, x.what, x.model(m), api.OK)
	}
	for h := range m.blobs {
		if s.Count(h) != m.count(h) || !s.Blobs().Has(h) {
			t.Errorf("%s: of %x: %d references, want %d", x.what, h[:3], s.Count(h), m.count(h))
		}
	}
	wantError(t, x.what+": Audit", s.Audit(), api.OK)
}

// P2: other errors come first, and forget nothing.
func TestErrorsAheadOfNoRoom(t *testing.T) {
	s, _ := planted(t)
	put(t, s, []byte("ahead"))
	wantError(t, "Mkdir", files(s).Mkdir("/roots/known", 493), api.OK)
	crowd(t, s, 0)
	wantRefused(t, "Put", s, api.ErrLong, func() api.Errno { return second(s.Put(text(api.MaxBlob+1, 1)...)) })
	wantRefused(t, "Release", s, api.ErrNone, func() api.Errno { return s.Release(api.Hash{}) })
	wantRefused(t, "Tag", s, api.ErrName, func() api.Errno { return s.Tag("", digest(oneImage(t))) })
	wantRefused(t, "Tag", s, api.ErrNone, func() api.Errno { return s.Tag("t", api.Hash{}) })
	wantRefused(t, "Tag", s, api.ErrForm, func() api.Errno { return s.Tag("t", digest(plainText())) })
	wantRefused(t, "Untag", s, api.ErrNone, func() api.Errno { return s.Untag("t") })
	wantRefused(t, "Pin", s, api.ErrName, func() api.Errno { return s.Pin("", "x") })
	wantRefused(t, "Pin", s, api.ErrNone, func() api.Errno { return s.Pin("q", "t") })
	wantRefused(t, "Pin", s, api.ErrKnown, func() api.Errno { return s.Pin("p", "x") })
	wantRefused(t, "Pin", s, api.ErrKnown, func() api.Errno { return s.Pin("known", "x") })
	wantRefused(t, "Unpin", s, api.ErrNone, func() api.Errno { return s.Unpin("q") })
	wantRefused(t, "asking", s, api.OK, func() api.Errno { s.Tags(); s.Pins(); s.Count(api.Hash{}); return s.Audit() })
}

// P2: with an error every other result is the zero value.
func TestNothingBesideAnError(t *testing.T) {
	s, _ := planted(t)
	crowd(t, s, 0)
	if h, e := s.Put('x'); h != (api.Hash{}) || e != api.ErrFull {
		t.Errorf("Put: %x, error %d", h, e)
	}
	if h, e := s.Put(text(api.MaxBlob+1, 1)...); h != (api.Hash{}) || e != api.ErrLong {
		t.Errorf("Put: %x, error %d", h, e)
	}
}

// P15.2: a pin whose tree finds no room for its pages, its inodes, or since the last Commit; and one that just finds it
func TestPinWithoutRoom(t *testing.T) {
	s, m := stored(t, 300, 32), newModel()
	var layers [][]byte
	for k := range 3 {
		layers = append(layers, tarOf(t, file("f"+string(rune('0'+k)), string(text(20000, k)))))
	}
	for _, b := range append(layers, imageOf("three", layers...), imageOf("two", layers[:2]...)) {
		put(t, s, b)
		m.put(b)
		commit(t, s)
	}
	wantError(t, "Tag", s.Tag("three", digest(imageOf("three", layers...))), m.tag("three", digest(imageOf("three", layers...))))
	wantError(t, "Tag", s.Tag("two", digest(imageOf("two", layers[:2]...))), m.tag("two", digest(imageOf("two", layers[:2]...))))
	commit(t, s)
	m.commit()
	last := pages(files(s))
	put(t, s, []byte("ahead"))
	wantError(t, "Pin of more than a group", s.Pin("p", "three"), api.ErrFull)
	wantForgotten(t, "Pin", files(s), last)
	wantModel(t, "Pin", s, m)
	wantError(t, "Pin", s.Pin("p", "two"), m.pin("p", "two"))
	wantModel(t, "Pin", s, m)
	commit(t, s)
	m.commit()
	put(t, s, []byte("ahead"))
	wantError(t, "Pin without pages", s.Pin("q", "two"), api.ErrFull)
	wantModel(t, "Pin", s, m)
}
