package bcache

import (
	"bytes"
	"slices"
	"testing"

	"dunnage/api"
	"dunnage/crashes"
)

// P1
func TestNil(t *testing.T) {
	var c *Cache
	if len(c.Dirty()) != 0 || len(c.Cached()) != 0 || c.Room() != 0 || c.Abort() != 0 || c.Log() != nil {
		t.Error("nil has something")
	}
	for _, n := range []int{0, -1} {
		b, e := c.Read(n)
		wantError(t, "Read", e, api.ErrNil)
		if len(b) != 0 {
			t.Error("nil is read")
		}
		wantError(t, "Write", c.Write(n, full(1)...), api.ErrNil)
		wantError(t, "Write of nothing", c.Write(n), api.ErrNil)
	}
	wantError(t, "Commit", c.Commit(), api.ErrNil)
}

// P3: what is handed in stays as it is, spare room too, and is not kept.
func TestHandedInStays(t *testing.T) {
	l := logOf(t, 3, 2)
	c := made(t, l, 2)
	room := append(full(1), 2, 3, 4)
	was := bytes.Clone(room)
	wantError(t, "Write", c.Write(2, room[:api.SectorBytes]...), api.OK)
	room[0] = 9
	wantRead(t, c, 2, 1)
	room[0] = 1
	wantError(t, "Write", c.Write(0, room[:api.SectorBytes]...), api.OK)
	put(t, c, 0, 5) // over the bytes of before, which are not the caller's
	wantError(t, "Commit", c.Commit(), api.OK)
	if !bytes.Equal(room, was) {
		t.Error("what was handed in has changed")
	}
	clear(room)
	if !slices.Equal(told(t, l), []int{5, 2, 1}) {
		t.Error("what was handed in is kept")
	}
}

// P3: what is answered is the caller's.
func TestAnsweredIsTheCallers(t *testing.T) {
	c := made(t, logOf(t, 5, 3), 2)
	put(t, c, 4, 50)
	put(t, c, 0, 51)
	use(t, c, 3, 1)
	dirty, cached := c.Dirty(), c.Cached()
	dirty[0], dirty[1], cached[0], cached[1] = 7, 7, 7, 7
	wantDirty(t, "behind a change of what was answered", c, 0, 4)
	wantCached(t, "behind a change of what was answered", c, 3, 1)
	for _, p := range [][2]int{{4, 50}, {1, 2}} {
		a, _ := c.Read(p[0])
		b, _ := c.Read(p[0])
		clear(a[:cap(a)])
		if !bytes.Equal(b, full(p[1])) {
			t.Error("two answers share bytes")
		}
		wantRead(t, c, p[0], p[1])
	}
}

// P6: caches over logs of their own know nothing of each other.
func TestCachesAreApart(t *testing.T) {
	a, b := made(t, logOf(t, 3, 2), 2), made(t, logOf(t, 3, 2), 2)
	put(t, a, 1, 50)
	use(t, a, 0)
	wantCached(t, "the other cache", b)
	wantDirty(t, "the other cache", b)
	wantRead(t, b, 1, 2)
	wantError(t, "Commit", a.Commit(), api.OK)
	wantRead(t, b, 1, 2)
}

// P4.5: behind each op of a Commit, with none, all, and some of what waits kept.
func TestCrashWithinACommit(t *testing.T) {
	l := logOf(t, 6, 3)
	c := made(t, l, 2)
	use(t, c, 1, 5)
	put(t, c, 0, 40)
	put(t, c, 5, 41)
	wantError(t, "Commit", c.Commit(), api.OK)
	before, from := told(t, l), l.Disk().Ops()
	put(t, c, 5, 50)
	put(t, c, 2, 51)
	put(t, c, 3, 52)
	wantError(t, "Commit", c.Commit(), api.OK)
	after := told(t, l)
	seen := [2]int{}
	for k, left := range crashes.Behind(l.Disk(), from) {
		got := told(t, reopened(t, left, 3))
		switch {
		case slices.Equal(got, before):
			seen[0]++
		case slices.Equal(got, after):
			seen[1]++
		default:
			t.Errorf("behind op %d: %v", k-from, got)
		}
		if k == l.Disk().Ops() && !slices.Equal(got, after) {
			t.Error("what was answered is gone")
		}
	}
	if seen[0] == 0 || seen[1] == 0 {
		t.Errorf("as ahead and as behind: %v", seen)
	}
}

// model is a cache by the document's words alone.
type model struct {
	log   []int // what the log has
	dirty map[int]int
	used  []int // the clean pages, the one that was used last the last one
	most  int
	room  int
}

func (m *model) read(n int) int {
	if x, ok := m.dirty[n]; ok {
		return x
	}
	m.used = append(slices.DeleteFunc(m.used, func(k int) bool { return k == n }), n)
	if len(m.used) > m.most {
		m.used = m.used[1:]
	}
	return m.log[n]
}

func (m *model) write(n, x int) api.Errno {
	if _, ok := m.dirty[n]; !ok && len(m.dirty) == m.room {
		return api.ErrFull
	}
	m.dirty[n] = x
	m.used = slices.DeleteFunc(m.used, func(k int) bool { return k == n })
	return api.OK
}

func (m *model) numbers() []int {
	var all []int
	for n := range m.log {
		if _, ok := m.dirty[n]; ok {
			all = append(all, n)
		}
	}
	return all
}

// row answers numbers below a bound, each run the same ones.
func row(seed uint32) func(int) int {
	return func(bound int) int {
		seed = seed*1664525 + 1013904223
		return int(seed>>8) % bound
	}
}

// P4.1 to P4.4, P4.6
func TestAgainstTheModel(t *testing.T) {
	for seed := range uint32(40) {
		next := row(seed)
		pages, size := 1+next(90), 1+next(12)
		l := logOf(t, pages, size)
		m := model{log: told(t, l), dirty: map[int]int{}, most: 1 + next(api.MaxCache), room: size}
		c := made(t, l, m.most)
		for range 300 {
			n, x := next(pages), next(256)
			switch next(12) {
			case 0:
				wantError(t, "Commit", c.Commit(), api.OK)
				for n, x := range m.dirty {
					m.log[n] = x
				}
				clear(m.dirty)
			case 1:
				if got := c.Abort(); got != len(m.dirty) {
					t.Fatalf("Abort: %d, want %d", got, len(m.dirty))
				}
				clear(m.dirty)
			case 2, 3, 4:
				wantError(t, "Write", c.Write(n, full(x)...), m.write(n, x))
			default:
				wantRead(t, c, n, m.read(n))
			}
			wantCached(t, "the model", c, m.used...)
			wantDirty(t, "the model", c, m.numbers()...)
		}
		if got := told(t, l); !slices.Equal(got, m.log) {
			t.Fatalf("the log has %v, want %v", got, m.log)
		}
	}
}

// P4.3, P4.4: one row of calls, with caches of all sizes.
func TestMostPlaysNoPartInReads(t *testing.T) {
	var want []byte
	for most := 1; most <= api.MaxCache; most++ {
		c := made(t, logOf(t, 70, 4), most)
		next := row(7)
		var got []byte
		for range 400 {
			switch n := next(70); next(8) {
			case 0:
				c.Commit()
			case 1:
				c.Abort()
			case 2, 3:
				c.Write(n, full(next(256))...)
			default:
				b, _ := c.Read(n)
				got = append(got, b[0])
			}
			if len(c.Cached()) > most {
				t.Fatalf("%d pages are cached, at most %d may be", len(c.Cached()), most)
			}
		}
		if want == nil {
			want = got
		}
		if !bytes.Equal(got, want) {
			t.Errorf("with most %d Read tells something else than with most 1", most)
		}
	}
}
