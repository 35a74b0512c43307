package blob

import (
	"bytes"
	"slices"
	"testing"

	"dunnage/api"
	"dunnage/crashes"
)

// P1
func TestNil(t *testing.T) {
	s, e := New(nil)
	if s != nil || e != api.ErrNil {
		t.Errorf("New: error %d", e)
	}
	for _, b := range [][]byte{nil, []byte("abc"), make([]byte, api.MaxBlob+1)} {
		if h, fresh, e := s.Put(b...); h != (api.Hash{}) || fresh || e != api.ErrNil {
			t.Errorf("Put: %x, fresh %v, error %d", h, fresh, e)
		}
		if got, e := s.Get(digest(b)); len(got) != 0 || e != api.ErrNil {
			t.Errorf("Get: %d bytes, error %d", len(got), e)
		}
		if s.Has(digest(b)) {
			t.Error("nil has a blob")
		}
		wantError(t, "Delete", s.Delete(digest(b)), api.ErrNil)
	}
	if list, e := s.List(); len(list) != 0 || e != api.ErrNil {
		t.Errorf("List: %x, error %d", list, e)
	}
	if s.FS() != nil {
		t.Error("nil has a file system")
	}
}

// P3: what is handed in stays as it is, spare room too, and is not kept.
func TestHandedInStays(t *testing.T) {
	s := stored(t, 60, 16)
	room := text(3000, 1)
	was := bytes.Clone(room)
	put(t, s, room[:700])
	put(t, s, room[200:1700])
	s.Put(room[:700]...)
	if !bytes.Equal(room, was) {
		t.Error("what was handed in has changed")
	}
	clear(room)
	wantBlobs(t, "cleared behind it", s, was[:700], was[200:1700])
}

// P3: what is answered is the caller's.
func TestAnsweredIsTheCallers(t *testing.T) {
	s := planted(t)
	for _, b := range plantedTexts() {
		got, _ := s.Get(digest(b))
		clear(got[:cap(got)])
		list, _ := s.List()
		clear(list[:cap(list)])
		wantBlobs(t, "behind a change of what was answered", s, plantedTexts()...)
	}
}

// P6: two stores of one file system tell the same; two file systems do not know of each other.
func TestNothingElseIsKept(t *testing.T) {
	s, other := planted(t), stored(t, 60, 16)
	twin := over(t, s.FS())
	h := put(t, twin, []byte("twin"))
	if !s.Has(h) || other.Has(h) {
		t.Error("a blob of one file system, and of no other one")
	}
	remove(t, s, h)
	if twin.Has(h) {
		t.Error("a blob that is gone")
	}
	wantError(t, "Remove", s.FS().Remove("/blobs"), api.OK)
	if list, _ := twin.List(); len(list) != 0 {
		t.Errorf("List: %x", list)
	}
}

// P10.1: calls that only ask change nothing, and nothing is committed by any call.
func TestNothingIsCommitted(t *testing.T) {
	s := planted(t)
	wantStill(t, "asking", s, func() {
		s.List()
		for _, b := range plantedTexts() {
			s.Get(digest(b))
			s.Has(digest(b))
		}
	})
	ops := s.FS().Disk().Ops()
	for _, x := range changes() {
		wantError(t, x.what, x.do(s), api.OK)
		if s.FS().Disk().Ops() != ops {
			t.Errorf("%s: something was committed", x.what)
		}
		wantError(t, "Abort", s.FS().Abort(), api.OK)
	}
	wantBlobs(t, "Abort", over(t, mounted(t, s.FS().Disk())), plantedTexts()...)
}

// E1, E4: behind a crash at each place within a Commit the blobs are those of the last one, or those behind it.
func TestCrashWithinACommit(t *testing.T) {
	for _, x := range changes() {
		s := planted(t)
		from := s.FS().Disk().Ops()
		wantError(t, x.what, x.do(s), api.OK)
		after, _ := s.List()
		commit(t, s)
		seen := [2]int{}
		for k, left := range crashes.Behind(s.FS().Disk(), from) {
			behind := over(t, mounted(t, left))
			list, e := behind.List()
			wantError(t, "List", e, api.OK)
			if slices.Equal(list, after) {
				wantBlobs(t, x.what, behind, x.now...)
				seen[1]++
				continue
			}
			if k == s.FS().Disk().Ops() {
				t.Errorf("%s: a crash behind it forgets it", x.what)
			}
			wantBlobs(t, x.what, behind, plantedTexts()...)
			seen[0]++
		}
		if seen[0] == 0 || seen[1] == 0 {
			t.Errorf("%s: as ahead and as behind: %v", x.what, seen)
		}
	}
}

// row is numbers by a rule, each below a bound; others for each seed.
func row(seed uint32) func(below int) int {
	x := seed*2654435761 + 12345
	return func(below int) int {
		x = x*1664525 + 1013904223
		return int(x>>8) % below
	}
}

// game is a store, the blobs that are there, and those of the last Commit.
type game struct {
	s         *Store
	now, last [][]byte
	refused   int
}

func (g *game) has(b []byte) bool {
	return slices.ContainsFunc(g.now, func(x []byte) bool { return bytes.Equal(x, b) })
}

// wantDone: a call's error; without room all since the last Commit is forgotten.
func (g *game) wantDone(t *testing.T, what string, got, want api.Errno) bool {
	t.Helper()
	if got == api.ErrFull && want == api.OK {
		g.now = slices.Clone(g.last)
		g.refused++
		return false
	}
	if got != want {
		t.Fatalf("%s: error %d, want %d", what, got, want)
	}
	return got == api.OK
}

func (g *game) put(t *testing.T, b []byte) {
	known := g.has(b)
	h, fresh, e := g.s.Put(b...)
	if !g.wantDone(t, "Put", e, api.OK) {
		return
	}
	if h != digest(b) || fresh == known {
		t.Fatalf("Put: %x, fresh %v, known %v", h, fresh, known)
	}
	if !known {
		g.now = append(g.now, b)
	}
}

func (g *game) remove(t *testing.T, b []byte) {
	want := api.ErrNone
	if g.has(b) {
		want = api.OK
	}
	if g.wantDone(t, "Delete", g.s.Delete(digest(b)), want) {
		g.now = slices.DeleteFunc(g.now, func(x []byte) bool { return bytes.Equal(x, b) })
	}
}

// P10.1 to P10.4, E1, E3, E4, E7: many calls, held against a list of blobs.
func TestAgainstTheModel(t *testing.T) {
	refused, most := 0, 0
	for seed := range uint32(12) {
		next := row(seed)
		g := &game{s: stored(t, 40+next(200), 8*(2+next(8)))}
		for range 250 {
			b := text(next(3)*next(900)+next(2)*next(2)*next(api.MaxBlob-1800), next(5))
			if known := slices.Concat(g.now, [][]byte{{}, []byte(oneOfThree), []byte(twoOfThree), []byte(threeOfThree)}); next(2) == 0 {
				b = known[next(len(known))]
			}
			switch k := next(20); {
			case k < 3:
				commit(t, g.s)
				g.last = slices.Clone(g.now)
			case k < 4:
				wantError(t, "Abort", g.s.FS().Abort(), api.OK)
				g.now = slices.Clone(g.last)
			case k < 5:
				g.s = over(t, mounted(t, g.s.FS().Disk()))
				g.now = slices.Clone(g.last)
			case k < 14:
				g.put(t, b)
			default:
				g.remove(t, b)
			}
			wantBlobs(t, "the model", g.s, g.now...)
			most = max(most, len(g.now))
			if t.Failed() {
				t.Fatalf("seed %d", seed)
			}
		}
		refused += g.refused
	}
	if refused < 20 || most < 15 {
		t.Errorf("%d calls without room, %d blobs at most", refused, most)
	}
}
