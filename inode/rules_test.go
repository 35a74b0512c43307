package inode

import (
	"bytes"
	"math"
	"slices"
	"testing"

	"dunnage/api"
	"dunnage/crashes"
)

// P1
func TestNil(t *testing.T) {
	s, e := New(nil)
	if s != nil || e != api.ErrNil {
		t.Errorf("New: error %d", e)
	}
	wantError(t, "Make", second(s.Make(api.File, 1)), api.ErrNil)
	wantError(t, "Make", second(s.Make(api.NoKind, -1)), api.ErrNil)
	for _, i := range []int{0, 1, -1, math.MinInt} {
		node, e := s.Get(i)
		if node != (api.Inode{}) || e != api.ErrNil {
			t.Errorf("Get: %v, error %d", node, e)
		}
		wantError(t, "Set", s.Set(i, 1, 1), api.ErrNil)
		wantError(t, "Set", s.Set(i, -1, -1), api.ErrNil)
		wantError(t, "Drop", s.Drop(i), api.ErrNil)
		b, e := s.Read(i, 0, 1)
		if len(b) != 0 || e != api.ErrNil {
			t.Errorf("Read: %v, error %d", b, e)
		}
		wantError(t, "Read", second(s.Read(i, -1, -1)), api.ErrNil)
		wantError(t, "Write", s.Write(i, 0, 1), api.ErrNil)
		wantError(t, "Write", s.Write(i, 0), api.ErrNil)
		wantError(t, "Write", s.Write(i, -1, 1), api.ErrNil)
		wantError(t, "Resize", s.Resize(i, 1), api.ErrNil)
		wantError(t, "Resize", s.Resize(i, -1), api.ErrNil)
		pages, e := s.Pages(i)
		if len(pages) != 0 || e != api.ErrNil {
			t.Errorf("Pages: %v, error %d", pages, e)
		}
	}
	if s.Map() != nil {
		t.Error("nil has a map")
	}
}

// P6.1, P6.3, P6: a store has nothing but its map; two of one map tell the same.
func TestNew(t *testing.T) {
	a := stored(t, 40, 8)
	b := over(t, a.Map())
	if a.Map() != b.Map() || a.Map() == nil {
		t.Error("Map is another one")
	}
	other := stored(t, 40, 8)
	i := made(t, a, api.File, 420)
	wantError(t, "Write", b.Write(i, 600, 1), api.OK)
	wantBytes(t, "one map", a, i, append(make([]byte, 600), 1))
	wantError(t, "another map", second(other.Get(i)), api.ErrNone)
}

// P3: what is handed in stays as it is, spare room too, and is not kept.
func TestHandedInStays(t *testing.T) {
	s := stored(t, 40, 8)
	i := made(t, s, api.File, 420)
	room := text(3000, 1)
	was := bytes.Clone(room)
	wantError(t, "Write", s.Write(i, 100, room[200:1700]...), api.OK)
	wantError(t, "Write", s.Write(i, 512, room[:1024]...), api.OK)
	wantError(t, "Write", s.Write(i, 700, 9, 9, 9), api.OK)
	wantError(t, "Resize", s.Resize(i, 150), api.OK)
	wantError(t, "Resize", s.Resize(i, 900), api.OK)
	if !bytes.Equal(room, was) {
		t.Error("what was handed in has changed")
	}
	clear(room)
	wantBytes(t, "cleared behind it", s, i, slices.Concat(make([]byte, 100), was[200:250], make([]byte, 750)))
}

// P3: what is answered is the caller's.
func TestAnsweredIsTheCallers(t *testing.T) {
	s := stored(t, 40, 8)
	i := newFile(t, s, text(6000, 1))
	for range 2 {
		a, _ := s.Read(i, 10, 1000)
		b, _ := s.Read(i, 10, 1000)
		clear(a[:cap(a)])
		if !bytes.Equal(b, text(6000, 1)[10:1010]) {
			t.Error("two answers share bytes")
		}
		pages, _ := s.Pages(i)
		clear(pages[:cap(pages)])
		wantPages(t, "behind a change of what was answered", s, i, append(upTo(4, 14), 15, 16, 14)...)
		wantBytes(t, "behind a change of what was answered", s, i, text(6000, 1))
		wantError(t, "Write", s.Write(i, 0, text(6000, 1)...), api.OK) // once more, with dirty pages
	}
}

// told is all that the inodes of a store tell.
func told(t *testing.T, s *Store) []byte {
	t.Helper()
	var b []byte
	for i := 1; i < s.Map().Inodes(); i++ {
		node, e := s.Get(i)
		if e != api.OK {
			b = append(b, 0)
			continue
		}
		b = append(b, place(node.Kind, node.Mode, node.Links, node.Size)...)
		data, _ := s.Read(i, 0, api.MaxFile)
		b = append(b, data...)
	}
	return b
}

// E1: behind each op of a Commit, with none, all, and some of what waits kept; E4, of what this layer knows.
func TestCrashWithinACommit(t *testing.T) {
	s := stored(t, 60, 8)
	newFile(t, s, text(5200, 1))
	newFile(t, s, text(700, 2))
	before, from := told(t, s), cacheOf(s).Log().Disk().Ops()
	wantError(t, "Write", s.Write(1, 5100, text(1000, 3)...), api.OK)
	wantError(t, "Drop", s.Drop(2), api.OK)
	made(t, s, api.Dir, 493)
	after := told(t, s)
	commit(t, s)
	seen := [2]int{}
	for k, left := range crashes.Behind(cacheOf(s).Log().Disk(), from) {
		behind := again(t, left)
		wantSound(t, behind)
		switch b := told(t, behind); {
		case bytes.Equal(b, before):
			seen[0]++
		case bytes.Equal(b, after):
			seen[1]++
		default:
			t.Errorf("behind op %d: neither as ahead nor as behind", k-from)
		}
	}
	if seen[0] == 0 || seen[1] == 0 {
		t.Errorf("as ahead and as behind: %v", seen)
	}
}
