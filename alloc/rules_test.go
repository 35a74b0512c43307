package alloc

import (
	"slices"
	"testing"

	"dunnage/api"
	"dunnage/crashes"
	"dunnage/disk"
)

// P1
func TestNil(t *testing.T) {
	m, e := Make(nil, 8)
	if m != nil || e != api.ErrNil {
		t.Errorf("Make: error %d", e)
	}
	m, e = Open(nil)
	if m != nil || e != api.ErrNil {
		t.Errorf("Open: error %d", e)
	}
	for _, n := range []int{0, 1, 5, -1} {
		wantError(t, "GivePage", m.GivePage(n), api.ErrNil)
		wantError(t, "GiveInode", m.GiveInode(n), api.ErrNil)
		if page, at, e := m.Table(n); page != 0 || at != 0 || e != api.ErrNil {
			t.Errorf("Table: error %d", e)
		}
		if m.Used(n) || m.UsedInode(n) {
			t.Error("nil has taken something")
		}
	}
	n, e := m.Page()
	wantNone(t, "Page", n, e, api.ErrNil)
	n, e = m.Inode()
	wantNone(t, "Inode", n, e, api.ErrNil)
	wantFree(t, "nil", m, 0, 0)
	if m.First() != 0 || m.Inodes() != 0 || m.Cache() != nil {
		t.Error("nil has something")
	}
}

// P6: maps of caches of their own know nothing of each other; two of one cache tell the same.
func TestMapsAreApart(t *testing.T) {
	a, b := kept(t, 40, 8, 10), kept(t, 40, 8, 10)
	other := opened(t, a.Cache())
	takePage(t, a, 4)
	takePage(t, b, 4)
	takePage(t, other, 5)
	takePage(t, a, 6)
	wantError(t, "GivePage", other.GivePage(4), api.OK)
	wantFree(t, "one cache", a, 34, 7)
	wantFree(t, "one cache", other, 34, 7)
	wantFree(t, "another cache", b, 35, 7)
}

// 'Kept by its Commit, and forgotten by its Abort'
func TestAbort(t *testing.T) {
	m := kept(t, 40, 16, 10)
	takePage(t, m, 5)
	takeInode(t, m, 1)
	commit(t, m)
	was := stateOf(m)
	takePage(t, m, 6)
	takeInode(t, m, 2)
	wantError(t, "GivePage", m.GivePage(5), api.OK)
	wantError(t, "GiveInode", m.GiveInode(1), api.OK)
	m.Cache().Abort()
	if !was.same(stateOf(m)) {
		t.Error("an Abort has not forgotten all")
	}
	takePage(t, m, 6)
	takeInode(t, m, 2)
}

// A Make that is aborted has made nothing; what is always taken is so still.
func TestAbortOfMake(t *testing.T) {
	c := cacheOf(t, 40, 10)
	for n := range 4 {
		wantError(t, "Write", c.Write(n, full(0)...), api.OK)
	}
	wantError(t, "Commit", c.Commit(), api.OK)
	m := made(t, c, 8)
	c.Abort()
	wantError(t, "Open", second(Open(c)), api.ErrBroken)
	if !m.Used(0) || !m.Used(3) || m.Used(4) || !m.UsedInode(0) || m.UsedInode(1) {
		t.Error("others are taken")
	}
	wantFree(t, "an aborted Make", m, 36, 7)
	takePage(t, m, 4)
	takeInode(t, m, 1)
}

// P5.6, and E1: behind each op of a Commit.
func TestCrashWithinACommit(t *testing.T) {
	m := kept(t, 20, 8, 6)
	takePage(t, m, 4)
	takePage(t, m, 5)
	takeInode(t, m, 1)
	commit(t, m)
	before, from := stateOf(m), m.Cache().Log().Disk().Ops()
	takePage(t, m, 6)
	wantError(t, "GivePage", m.GivePage(4), api.OK)
	takeInode(t, m, 2)
	after := stateOf(m)
	commit(t, m)
	seen := [2]int{}
	for k, left := range crashes.Behind(m.Cache().Log().Disk(), from) {
		switch got := stateOf(opened(t, cached(t, left, 6))); {
		case got.told(before):
			seen[0]++
		case got.told(after):
			seen[1]++
		default:
			t.Errorf("behind op %d: neither as ahead nor as behind", k-from)
		}
	}
	if seen[0] == 0 || seen[1] == 0 {
		t.Errorf("as ahead and as behind: %v", seen)
	}
}

// model is a map by the document's words alone: which numbers are taken.
type model struct {
	pages, inodes map[int]bool
	first         int
	end           [2]int // of pages, of inodes
}

func (m model) clone() model {
	pages, inodes := map[int]bool{}, map[int]bool{}
	for n := range m.pages {
		pages[n] = true
	}
	for i := range m.inodes {
		inodes[i] = true
	}
	return model{pages, inodes, m.first, m.end}
}

// lowest is the first free one from a number on, or none.
func lowest(taken map[int]bool, from, end int) int {
	for n := from; n < end; n++ {
		if !taken[n] {
			taken[n] = true
			return n
		}
	}
	return 0
}

func give(taken map[int]bool, from, end, n int) api.Errno {
	switch {
	case n < from || n >= end:
		return api.ErrRange
	case !taken[n]:
		return api.ErrNone
	}
	delete(taken, n)
	return api.OK
}

func (m model) check(t *testing.T, got *Map) {
	t.Helper()
	wantFree(t, "the model", got, m.end[0]-m.first-len(m.pages), m.end[1]-1-len(m.inodes))
	for n := range m.end[0] {
		if got.Used(n) != (n < m.first || m.pages[n]) {
			t.Fatalf("Used(%d): %v", n, got.Used(n))
		}
	}
	for i := range m.end[1] {
		if got.UsedInode(i) != (i == 0 || m.inodes[i]) {
			t.Fatalf("UsedInode(%d): %v", i, got.UsedInode(i))
		}
	}
}

// row answers numbers below a bound, each run the same ones.
func row(seed uint32) func(int) int {
	return func(bound int) int {
		seed = seed*1664525 + 1013904223
		return int(seed>>8) % bound
	}
}

// wantTaken holds a number that was taken against the model's, 0 for none.
func wantTaken(t *testing.T, what string, n int, e api.Errno, want int) {
	t.Helper()
	none := api.OK
	if want == 0 {
		none = api.ErrFull
	}
	if n != want || e != none {
		t.Fatalf("%s: %d, error %d, want %d", what, n, e, want)
	}
}

// P5.2 to P5.6, with a cache that has room for all.
func TestAgainstTheModel(t *testing.T) {
	for seed := range uint32(30) {
		next := row(seed)
		inodes := 8 * (1 + next(4))
		pages := 3 + inodes/8 + 1 + next(40)
		got := kept(t, pages, inodes, api.MaxGroup)
		m := model{map[int]bool{}, map[int]bool{}, 3 + inodes/8, [2]int{pages, inodes}}
		last := m.clone()
		for range 200 {
			n := next(pages+4) - 2
			switch next(12) {
			case 0:
				commit(t, got)
				last = m.clone()
				d, e := disk.Load(got.Cache().Log().Disk().Safe()...)
				wantError(t, "disk.Load", e, api.OK)
				got = opened(t, cached(t, d, api.MaxGroup))
			case 1:
				got.Cache().Abort()
				m = last.clone()
			case 2, 3:
				wantError(t, "GivePage", got.GivePage(n), give(m.pages, m.first, pages, n))
			case 4:
				wantError(t, "GiveInode", got.GiveInode(n), give(m.inodes, 1, inodes, n))
			case 5, 6:
				i, e := got.Inode()
				wantTaken(t, "Inode", i, e, lowest(m.inodes, 1, inodes))
			default:
				n, e := got.Page()
				wantTaken(t, "Page", n, e, lowest(m.pages, m.first, pages))
				if e == api.OK {
					wantPage(t, got.Cache(), n, full(0))
					wantError(t, "Write", got.Cache().Write(n, full(n)...), api.OK)
				}
			}
			m.check(t, got)
		}
	}
}

// P5.4, P5.5: with little room; what a call refuses changes nothing, and no page is taken twice.
func TestWithLittleRoom(t *testing.T) {
	for room := 5; room < 9; room++ {
		next := row(uint32(room))
		m := kept(t, 30, 8, room)
		var taken, last []int
		for range 600 {
			switch next(12) {
			case 0:
				commit(t, m)
				last = slices.Clone(taken)
			case 1:
				m.Cache().Abort()
				taken = slices.Clone(last)
			case 2, 3, 4:
				if len(taken) == 0 {
					continue
				}
				at := next(len(taken))
				if e := m.GivePage(taken[at]); e == api.OK {
					taken = slices.Delete(taken, at, at+1)
				} else {
					wantError(t, "GivePage", e, api.ErrFull)
				}
			default:
				n, e := m.Page()
				if e == api.OK && !slices.Contains(taken, n) {
					taken = append(taken, n)
				} else {
					wantNone(t, "Page", n, e, api.ErrFull)
				}
			}
			wantFree(t, "little room", m, 26-len(taken), 7)
			for _, n := range taken {
				if !m.Used(n) {
					t.Fatalf("page %d is free", n)
				}
			}
		}
	}
}
