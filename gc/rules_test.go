package gc

import (
	"bytes"
	"slices"
	"testing"

	"dunnage/api"
	"dunnage/crashes"
)

// P1
func TestNil(t *testing.T) {
	s, e := Open(nil)
	if s != nil || e != api.ErrNil {
		t.Errorf("Open: error %d", e)
	}
	for _, b := range [][]byte{nil, []byte("abc"), make([]byte, api.MaxBlob+1)} {
		if h, e := s.Put(b...); h != (api.Hash{}) || e != api.ErrNil {
			t.Errorf("Put: %x, error %d", h, e)
		}
		wantError(t, "Release", s.Release(digest(b)), api.ErrNil)
		if s.Count(digest(b)) != 0 || s.Holds(digest(b)) != 0 {
			t.Error("references of nil")
		}
	}
	for _, word := range []string{"", "a", "No"} {
		wantError(t, "Tag", s.Tag(word, api.Hash{}), api.ErrNil)
		wantError(t, "Untag", s.Untag(word), api.ErrNil)
		wantError(t, "Pin", s.Pin(word, word), api.ErrNil)
		wantError(t, "Unpin", s.Unpin(word), api.ErrNil)
		for _, ask := range []func(string) (api.Hash, api.Errno){s.Tagged, s.Pinned} {
			if h, e := ask(word); h != (api.Hash{}) || e != api.ErrNil {
				t.Errorf("asked: %x, error %d", h, e)
			}
		}
	}
	if len(s.Tags()) != 0 || len(s.Pins()) != 0 || s.Blobs() != nil {
		t.Error("words or blobs of nil")
	}
	wantError(t, "Audit", s.Audit(), api.ErrNil)
	wantError(t, "Commit", s.Commit(), api.ErrNil)
	wantError(t, "Abort", s.Abort(), api.ErrNil)
}

// P3: what is handed in stays as it is, spare room too, and is not kept.
func TestHandedInStays(t *testing.T) {
	s, m := stored(t, 120, 32), newModel()
	room := text(3000, 1)
	was := bytes.Clone(room)
	for _, b := range [][]byte{room[:700], room[200:1700], room[:700]} {
		put(t, s, b)
		m.put(bytes.Clone(b))
	}
	if !bytes.Equal(room, was) {
		t.Error("what was handed in has changed")
	}
	clear(room)
	wantModel(t, "cleared behind it", s, m)
}

// P3: what is answered is the caller's.
func TestAnsweredIsTheCallers(t *testing.T) {
	s, m := planted(t)
	for _, words := range [][]string{s.Tags(), s.Pins()} {
		clear(words[:cap(words)])
	}
	wantModel(t, "behind a change of what was answered", s, m)
}

// P15.3: calls that only ask change nothing.
func TestAskingChangesNothing(t *testing.T) {
	s, m := planted(t)
	put(t, s, []byte("waits"))
	m.put([]byte("waits"))
	wantStill(t, "asking", files(s), func() {
		wantModel(t, "asking", s, m)
		if s.Blobs() != s.Blobs() || s.Blobs().FS() != files(s) {
			t.Error("Blobs is not itself")
		}
	})
}

// P15.1 to P15.3: nothing is committed but by Commit; Abort behind each call lets all be as at the last Commit, Commit keeps it.
func TestAbortAndCommit(t *testing.T) {
	for _, x := range steps(t) {
		s, m := planted(t)
		last, ops := pages(files(s)), files(s).Disk().Ops()
		wantError(t, x.what, x.do(s), api.OK)
		if files(s).Disk().Ops() != ops {
			t.Errorf("%s: something was committed", x.what)
		}
		wantError(t, "Abort", s.Abort(), api.OK)
		wantForgotten(t, x.what, files(s), last)
		wantModel(t, x.what+", Abort", s, m)
		wantError(t, x.what, x.do(s), x.model(m))
		commit(t, s)
		m.commit()
		wantError(t, "Abort", s.Abort(), api.OK)
		wantModel(t, x.what+", Commit", s, m)
		wantModel(t, x.what+", opened again", opened(t, mounted(t, files(s).Disk())), m)
	}
}

// P15.3, P6: references are those of the file system, whoever forgets what was done, and through whichever store.
func TestForgottenByOthers(t *testing.T) {
	for what, forget := range map[string]func(s *Store) api.Errno{
		"the file system's Abort": func(s *Store) api.Errno { return files(s).Abort() },
		"the cache's Abort":       func(s *Store) api.Errno { cacheOf(s).Abort(); return api.OK },
		"a second store's Abort":  func(s *Store) api.Errno { return opened(t, files(s)).Abort() },
		"no room for a file": func(s *Store) api.Errno {
			wantError(t, "Write", files(s).Write("/long", 420, make([]byte, api.MaxFile)...), api.ErrFull)
			return api.OK
		},
		"no room for a blob": func(s *Store) api.Errno {
			crowd(t, s, 10)
			_, _, e := s.Blobs().Put(text(9000, 1)...)
			wantError(t, "Put", e, api.ErrFull)
			return api.OK
		},
	} {
		s, m := planted(t)
		for _, x := range steps(t) {
			x.do(s)
		}
		wantError(t, what, forget(s), api.OK)
		wantModel(t, what, s, m)
	}
	s, m := planted(t)
	twin := opened(t, files(s))
	for _, x := range steps(t) {
		wantError(t, x.what, x.do(s), x.model(m))
		s, twin = twin, s
	}
	wantModel(t, "one store", s, m)
	wantModel(t, "its twin", twin, m)
}

// P6: two file systems do not know of each other.
func TestNothingElseIsKept(t *testing.T) {
	s, m := planted(t)
	other, none := stored(t, 120, 32), newModel()
	wantModel(t, "another one", other, none)
	put(t, other, []byte("x"))
	none.put([]byte("x"))
	wantModel(t, "the one", s, m)
	wantModel(t, "another one", other, none)
}

// P15.7 (E1), E4, E5: behind a crash at each place within a Commit the store that is opened is that of the last one, or that behind it.
func TestCrashWithinACommit(t *testing.T) {
	for _, x := range steps(t) {
		s, ahead := planted(t)
		_, behind := planted(t)
		from, last := files(s).Disk().Ops(), pages(files(s))
		wantError(t, x.what, x.do(s), x.model(behind))
		now := pages(files(s))
		commit(t, s)
		seen := [2]int{}
		for k, left := range crashes.Behind(files(s).Disk(), from) {
			f := mounted(t, left)
			got := pages(f)
			which := 0
			if slices.EqualFunc(got, now, bytes.Equal) {
				which = 1
			} else if k == files(s).Disk().Ops() {
				t.Fatalf("%s: a crash behind it forgets it", x.what)
			} else if !slices.EqualFunc(got, last, bytes.Equal) {
				t.Fatalf("%s: as neither ahead nor behind", x.what)
			}
			if seen[which]%200 == 0 { // what lies on the pages tells all: so not each one is asked for all
				wantModel(t, x.what, opened(t, f), [2]*model{ahead, behind}[which])
			}
			seen[which]++
		}
		if moved := !slices.EqualFunc(last, now, bytes.Equal); seen[1] == 0 || moved && seen[0] == 0 {
			t.Errorf("%s: as ahead and as behind: %v", x.what, seen)
		}
	}
}

// P15.7 (E1): a store that is opened behind a crash goes on.
func TestGoOnBehindACrash(t *testing.T) {
	s, m := planted(t)
	for _, x := range steps(t) {
		wantError(t, x.what, x.do(s), x.model(m))
		commit(t, s)
		m.commit()
		put(t, s, []byte("not committed"))
		left, e := files(s).Disk().Crash()
		wantError(t, "Crash", e, api.OK)
		s = opened(t, mounted(t, left))
		wantModel(t, x.what, s, m)
	}
}
