package fsck

import (
	"bytes"
	"slices"
	"testing"

	"dunnage/alloc"
	"dunnage/api"
	"dunnage/bcache"
	"dunnage/disk"
	"dunnage/inode"
	"dunnage/wal"
)

// P1
func TestNil(t *testing.T) {
	if r, e := Check(nil); r != (Report{}) || e != api.ErrNil {
		t.Errorf("Check: %+v, error %d", r, e)
	}
}

// P2, P6: Check changes nothing, whatever it answers, and answers the same again.
func TestNothingChanges(t *testing.T) {
	for _, broken := range []bool{false, true} {
		s := planted(t)
		if broken {
			flipPage(t, s, lastPage)
		}
		was, dirty, ops := bare(s), cacheOf(s).Dirty(), cacheOf(s).Log().Disk().Ops()
		r, e := Check(s)
		again, f := Check(s)
		if r != again || e != f || broken == (e == api.OK) {
			t.Errorf("Check: %+v, error %d, then %+v, error %d", r, e, again, f)
		}
		if !slices.EqualFunc(was, bare(s), bytes.Equal) || !slices.Equal(dirty, cacheOf(s).Dirty()) || ops != cacheOf(s).Log().Disk().Ops() {
			t.Error("something has changed")
		}
	}
}

// blank is a file system of which alloc has made the map alone.
func blank(t *testing.T, pages, inodes int) *inode.Store {
	t.Helper()
	d, e := disk.New(1 + api.MaxGroup + pages)
	wantError(t, "disk.New", e, api.OK)
	l, e := wal.Open(d, api.MaxGroup)
	wantError(t, "wal.Open", e, api.OK)
	c, e := bcache.New(l, 1)
	wantError(t, "bcache.New", e, api.OK)
	m, e := alloc.Make(c, inodes)
	wantError(t, "alloc.Make", e, api.OK)
	s, e := inode.New(m)
	wantError(t, "inode.New", e, api.OK)
	return s
}

// P9.1: no root yet; a root that is made by hand; all of it forgotten.
func TestWithoutARoot(t *testing.T) {
	s := blank(t, 40, 8)
	wantFault(t, "no root", s, 1)
	i, e := s.Make(api.Dir, 0)
	if i != root || e != api.OK {
		t.Fatalf("Make: %d, error %d", i, e)
	}
	wantReport(t, "a root", s, Report{Dirs: 1})
	cacheOf(s).Abort()
	wantFault(t, "all forgotten", s, 1)
}

// P1, P9.1: Check ends on pages that nobody made, and finds none of them sound that are not.
func TestPagesThatNobodyMade(t *testing.T) {
	next := row(3)
	for range 400 {
		pages, inodes := 7+next(60), 8*(1+next(3))
		s := blank(t, pages, inodes)
		for n := 1; n < pages; n++ {
			b := make([]byte, api.SectorBytes)
			for at := range b {
				if next(3) == 0 {
					b[at] = byte(next(256)) >> next(8)
				}
			}
			wantError(t, "Write", cacheOf(s).Write(n, b...), api.OK)
		}
		wantTold(t, s)
		edit(t, s, root, func(node *api.Inode) { *node = api.Inode{Kind: api.Dir, Links: 1} }) // a root, whatever stands beside it
		wantTold(t, s)
	}
	for _, x := range []byte{0, 1, 2, 3, 0x40, 0xff} {
		s := blank(t, 40, 8)
		for n := 1; n < 40; n++ {
			wantError(t, "Write", cacheOf(s).Write(n, bytes.Repeat([]byte{x}, api.SectorBytes)...), api.OK)
		}
		wantTold(t, s)
	}
}
