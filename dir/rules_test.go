package dir

import (
	"maps"
	"math"
	"slices"
	"testing"

	"dunnage/api"
	"dunnage/inode"
)

// P1
func TestNil(t *testing.T) {
	for _, i := range []int{0, 1, -1, math.MaxInt, math.MinInt} {
		for _, name := range []string{"a", "", "/", "\x00"} {
			if n, e := Find(nil, i, name); n != 0 || e != api.ErrNil {
				t.Errorf("Find: %d, error %d", n, e)
			}
			wantError(t, "Add", Add(nil, i, name, 2), api.ErrNil)
			wantError(t, "Add", Add(nil, i, name, -2), api.ErrNil)
			if n, e := Drop(nil, i, name); n != 0 || e != api.ErrNil {
				t.Errorf("Drop: %d, error %d", n, e)
			}
		}
		if names, e := List(nil, i); len(names) != 0 || e != api.ErrNil {
			t.Errorf("List: %q, error %d", names, e)
		}
		if empty, e := Empty(nil, i); empty || e != api.ErrNil {
			t.Errorf("Empty: %v, error %d", empty, e)
		}
	}
}

// P3: what is answered is the caller's.
func TestAnsweredIsTheCallers(t *testing.T) {
	s := stored(t, 40)
	add(t, s, 2, "a", "b", "c")
	names, _ := List(s, 1)
	clear(names[:cap(names)])
	wantNames(t, s, "a", "b", "c")
}

// Calls that only ask change nothing.
func TestAskingChangesNothing(t *testing.T) {
	s := crowded(t, 60, 20)
	wantStill(t, "asking", s, func() {
		Find(s, 1, numbered(3))
		Find(s, 1, "none")
		List(s, 1)
		Empty(s, 1)
	})
}

// row is numbers by a rule, each below a bound; others for each seed.
func row(seed uint32) func(below int) int {
	x := seed*2654435761 + 12345
	return func(below int) int {
		x = x*1664525 + 1013904223
		return int(x>>8) % below
	}
}

// P7.1, P7.2, P7.3, P7.5: many calls, held against a map; Commit and Abort between them.
func TestAgainstTheModel(t *testing.T) {
	for seed := range uint32(20) {
		s, next := stored(t, 60), row(seed)
		total, _ := s.Map().Free()
		bound := 3 + next(120)
		model, last := map[string]int{}, map[string]int{}
		for range 600 {
			name, i := numbered(next(bound)), 1+next(511)
			was, known := model[name]
			switch next(20) {
			case 0:
				commit(t, s)
				last = maps.Clone(model)
			case 1:
				cacheOf(s).Abort()
				model = maps.Clone(last)
			case 2, 3, 4, 5, 6, 7, 8:
				if n, e := Drop(s, 1, name); known != (e == api.OK) || n != was || !known && e != api.ErrNone {
					t.Fatalf("Drop: %d, error %d, want %d", n, e, was)
				}
				delete(model, name)
			case 9, 10:
				if n, e := Find(s, 1, name); known != (e == api.OK) || n != was || !known && e != api.ErrNone {
					t.Fatalf("Find: %d, error %d, want %d", n, e, was)
				}
			default:
				if e := Add(s, 1, name, i); known && e != api.ErrKnown || !known && e != api.OK {
					t.Fatalf("Add: error %d", e)
				}
				if !known {
					model[name] = i
				}
			}
			wantModel(t, s, model, total)
		}
	}
}

// wantModel: the names, what they stand for, and what chapter 9 asks of a directory.
func wantModel(t *testing.T, s *inode.Store, model map[string]int, total int) {
	t.Helper()
	wantNames(t, s, slices.Sorted(maps.Keys(model))...)
	b, _ := s.Read(1, 0, api.MaxFile)
	if len(b)%api.EntryBytes != 0 || len(b) > 0 && len(model) == 0 {
		t.Fatalf("%d bytes, %d names", len(b), len(model))
	}
	seen := 0
	for x := range slices.Chunk(b, api.EntryBytes) {
		if y := decoded(x); y.inode != 0 {
			seen++
			if model[y.name] != y.inode || !slices.Equal(x, bytesOf(y.inode, y.name)) {
				t.Fatalf("an entry is % x", x)
			}
		} else if !slices.Equal(x, bytesOf(0, "")) {
			t.Fatalf("a free entry is % x", x)
		}
	}
	if seen != len(model) {
		t.Fatalf("%d entries, %d names", seen, len(model))
	}
	if p, _ := s.Map().Free(); total-p != inode.Need(len(b)) {
		t.Fatalf("%d pages are taken by %d bytes", total-p, len(b))
	}
}

// P1: calls end, whatever others have written to a directory.
func TestBytesOfOthers(t *testing.T) {
	s, next := stored(t, 60), row(1)
	for range 500 {
		b := make([]byte, next(2000))
		for at := range b {
			if next(3) > 0 {
				b[at] = byte(next(256)) >> next(8)
			}
		}
		wantError(t, "Write", s.Write(1, 0, b...), api.OK)
		names, _ := List(s, 1)
		Empty(s, 1)
		for _, name := range append(names, "a", "b") {
			Find(s, 1, name)
			Add(s, 1, name, 2)
			Drop(s, 1, name)
		}
		cacheOf(s).Abort()
	}
}
