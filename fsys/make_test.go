package fsys

import (
	"bytes"
	"math"
	"slices"
	"testing"

	"dunnage/alloc"
	"dunnage/api"
	"dunnage/bcache"
	"dunnage/disk"
	"dunnage/inode"
	"dunnage/wal"
)

func newDisk(t *testing.T, sectors int) *disk.Disk {
	t.Helper()
	d, e := disk.New(sectors)
	wantError(t, "disk.New", e, api.OK)
	return d
}

// P8.1: the root alone, committed, on a Fork.
func TestMake(t *testing.T) {
	for _, x := range []struct{ sectors, size, inodes int }{
		{10, 4, 8}, {301, 100, 32}, {3000, 100, 512}, {4096, 100, 8}, {300, 200, 64}, {90, 67, 24}, {169, 100, 512}, {136, 67, 512},
	} {
		d := newDisk(t, x.sectors)
		f, e := Make(d, x.size, x.inodes)
		if f == nil || e != api.OK {
			t.Fatalf("Make on %d sectors: error %d", x.sectors, e)
		}
		if d.Ops() != 0 || !disk.Same(d, newDisk(t, x.sectors)) {
			t.Error("the disk that was handed in has changed")
		}
		for _, f := range []*FS{f, remount(t, f, x.size)} {
			wantPaths(t, f, "/", "/")
			wantStat(t, f, "/", api.Dir, 493, 1, 0)
			if p, i := f.Free(); p != x.sectors-x.size-1-3-x.inodes/8 || i != x.inodes-2 {
				t.Errorf("%d sectors: %d pages and %d inodes are free", x.sectors, p, i)
			}
			wantSound(t, f)
			if len(cacheOf(f).Dirty()) != 0 {
				t.Error("it is not committed")
			}
		}
	}
}

func remount(t *testing.T, f *FS, size int) *FS {
	t.Helper()
	again, e := Mount(f.Disk(), size)
	if again == nil || e != api.OK {
		t.Fatalf("Mount: error %d", e)
	}
	return again
}

// P8.1: the errors of wal.Open, then of alloc.Make, in their order; nothing is answered with them.
func TestMakeErrors(t *testing.T) {
	broken := newDisk(t, 301)
	wantError(t, "Write", broken.Write(0, bytes.Repeat([]byte{1}, api.SectorBytes)...), api.OK)
	good := newDisk(t, 301)
	for _, x := range []struct {
		what         string
		d            *disk.Disk
		size, inodes int
		want         api.Errno
	}{
		{"nil", nil, 100, 32, api.ErrNil},
		{"nil, wrong numbers", nil, -1, -1, api.ErrNil},
		{"no log", good, 0, 32, api.ErrRange},
		{"a log below nothing", good, -1, 32, api.ErrRange},
		{"the least number", good, math.MinInt, 32, api.ErrRange},
		{"the greatest number", good, math.MaxInt, 32, api.ErrRange},
		{"no page", good, 300, 32, api.ErrRange},
		{"a broken head", broken, 100, 32, api.ErrBroken},
		{"a broken head, wrong inodes", broken, 100, 7, api.ErrBroken},
		{"a broken head, no log", broken, 0, 32, api.ErrRange},
		{"no inodes", good, 100, 0, api.ErrRange},
		{"inodes below nothing", good, 100, -8, api.ErrRange},
		{"7 inodes", good, 100, 7, api.ErrRange},
		{"12 inodes", good, 100, 12, api.ErrRange},
		{"too many inodes", good, 100, api.MaxInodes + 8, api.ErrRange},
		{"the greatest number of inodes", good, 100, math.MaxInt, api.ErrRange},
		{"no page behind the table", newDisk(t, 15), 10, 8, api.ErrRange},
		{"a log of 3 pages, where 4 are written", good, 3, 8, api.ErrFull},
		{"a log of 66 pages, where 67 are written", good, 66, api.MaxInodes, api.ErrFull},
		{"a log of 3 pages, wrong inodes", good, 3, 9, api.ErrRange},
	} {
		if f, e := Make(x.d, x.size, x.inodes); f != nil || e != x.want {
			t.Errorf("Make: %s: error %d, want %d", x.what, e, x.want)
		}
	}
	if good.Ops() != 0 {
		t.Error("a disk that was handed in has changed")
	}
}

// P8.1: Make forgets what was on the disk.
func TestMakeAnew(t *testing.T) {
	old := planted(t)
	f, e := Make(old.Disk(), api.MaxGroup, 32)
	wantError(t, "Make", e, api.OK)
	wantPaths(t, f, "/", "/")
	wantSound(t, f)
	wantPaths(t, old, "/d/g", "/d/g", "/d/g/h")
}

// P8.1 (Mount): the errors of wal.Open and of alloc.Open; a disk that was never made.
func TestMountErrors(t *testing.T) {
	f := planted(t)
	broken := f.Disk()
	wantError(t, "Write", broken.Write(0, bytes.Repeat([]byte{1}, api.SectorBytes)...), api.OK)
	superblock := f.Disk()
	wantError(t, "Write", superblock.Write(101, bytes.Repeat([]byte{0x44}, api.SectorBytes)...), api.OK)
	for _, x := range []struct {
		what string
		d    *disk.Disk
		size int
		want api.Errno
	}{
		{"nil", nil, 100, api.ErrNil},
		{"nil, a wrong number", nil, -1, api.ErrNil},
		{"no log", f.Disk(), 0, api.ErrRange},
		{"a log below nothing", f.Disk(), math.MinInt, api.ErrRange},
		{"no page", f.Disk(), 340, api.ErrRange},
		{"the greatest number", f.Disk(), math.MaxInt, api.ErrRange},
		{"never made", newDisk(t, 341), 100, api.ErrBroken},
		{"another log", f.Disk(), 99, api.ErrBroken},
		{"a broken head", broken, 100, api.ErrBroken},
		{"no superblock", superblock, 100, api.ErrBroken},
	} {
		if f, e := Mount(x.d, x.size); f != nil || e != x.want {
			t.Errorf("Mount: %s: error %d, want %d", x.what, e, x.want)
		}
	}
}

// mapped is a disk with a map alone: no inode is taken there.
func mapped(t *testing.T) (*inode.Store, *bcache.Cache) {
	t.Helper()
	l, e := wal.Open(newDisk(t, 141), 100)
	wantError(t, "wal.Open", e, api.OK)
	c, e := bcache.New(l, 8)
	wantError(t, "bcache.New", e, api.OK)
	m, e := alloc.Make(c, 16)
	wantError(t, "alloc.Make", e, api.OK)
	s, e := inode.New(m)
	wantError(t, "inode.New", e, api.OK)
	return s, c
}

// P8.1 (Mount): inode 1 is no directory: it is free, a file, a link.
func TestMountWithoutRoot(t *testing.T) {
	for k, want := range map[api.Kind]api.Errno{
		api.NoKind: api.ErrBroken, api.File: api.ErrBroken, api.Link: api.ErrBroken, api.Dir: api.OK,
	} {
		s, c := mapped(t)
		if k != api.NoKind {
			wantError(t, "inode.Make", second(s.Make(k, 493)), api.OK)
		}
		wantError(t, "Commit", c.Commit(), api.OK)
		f, e := Mount(c.Log().Disk(), 100)
		if (f != nil) != (want == api.OK) || e != want {
			t.Errorf("Mount of an inode 1 of the kind %d: error %d, want %d", k, e, want)
		}
	}
	s, c := mapped(t)
	s.Make(api.Dir, 493)
	wantError(t, "inode.Make", second(s.Make(api.Dir, 493)), api.OK)
	wantError(t, "Drop", s.Drop(1), api.OK)
	wantError(t, "Commit", c.Commit(), api.OK)
	wantError(t, "a directory, but not inode 1", second(Mount(c.Log().Disk(), 100)), api.ErrBroken)
}

// P8.1, P8.5, E3: what was committed is mounted, and nothing else; the disk is a Fork both ways.
func TestCommitAndMount(t *testing.T) {
	f := planted(t)
	last := told(t, f)
	wantError(t, "Write", f.Write("/d/new", 420, text(700, 3)...), api.OK)
	wantError(t, "Remove", f.Remove("/d/g"), api.OK)
	now := told(t, f)
	d := f.Disk()
	if g := mounted(t, d); !slices.Equal(told(t, g), last) {
		t.Error("what was mounted is not that of the last Commit")
	}
	commit(t, f)
	if g := mounted(t, d); !slices.Equal(told(t, g), last) {
		t.Error("a Fork of the disk has changed")
	}
	g := mounted(t, f.Disk())
	if !slices.Equal(told(t, g), now) {
		t.Error("what was mounted is not what was committed")
	}
	p, i := f.Free()
	if q, j := g.Free(); p != q || i != j {
		t.Errorf("free: %d and %d, and behind Mount %d and %d", p, i, q, j)
	}
	wantSound(t, g)
	ops := f.Disk().Ops()
	wantError(t, "Remove", g.Remove("/d"), api.OK)
	commit(t, g)
	if !slices.Equal(told(t, f), now) || f.Disk().Ops() != ops {
		t.Error("what was mounted writes to the disk of the other one")
	}
}

// P8.5: Abort: all is as at the last Commit; Commit of nothing does nothing.
func TestAbort(t *testing.T) {
	f := planted(t)
	last, was := told(t, f), pages(f)
	for range 2 {
		wantError(t, "Mkdir", f.Mkdir("/new", 493), api.OK)
		wantError(t, "Rename", f.Rename("/d", "/new/d"), api.OK)
		wantError(t, "Unlink", f.Unlink("/f"), api.OK)
		wantError(t, "Write", f.Write("/new/d/f", 0), api.OK)
		wantError(t, "Abort", f.Abort(), api.OK)
		if !slices.Equal(told(t, f), last) || !slices.EqualFunc(pages(f), was, bytes.Equal) {
			t.Error("not as at the last Commit")
		}
		wantSound(t, f)
		wantError(t, "Abort of nothing", f.Abort(), api.OK)
	}
	wantStill(t, "Commit of nothing", f, func() { commit(t, f) })
}
