package fsys

import (
	"bytes"
	"slices"
	"strconv"
	"testing"

	"dunnage/api"
)

// step is a call that may find no room, on what planted made.
type step struct {
	what string
	do   func(f *FS) api.Errno
}

func changes() []step {
	return []step{
		{"Mkdir", func(f *FS) api.Errno { return f.Mkdir("/d/new", 493) }},
		{"Mkdir in an empty directory", func(f *FS) api.Errno { return f.Mkdir("/d/e/new", 493) }},
		{"Write", func(f *FS) api.Errno { return f.Write("/d/new", 420, text(700, 7)...) }},
		{"Write of nothing", func(f *FS) api.Errno { return f.Write("/d/e/new", 420) }},
		{"Write behind Direct", func(f *FS) api.Errno { return f.Write("/new", 420, text(5700, 7)...) }},
		{"Write anew, shorter", func(f *FS) api.Errno { return f.Write("/f", 421, text(1000, 7)...) }},
		{"Write anew, longer", func(f *FS) api.Errno { return f.Write("/d/k", 420, text(1000, 7)...) }},
		{"Write anew, nothing", func(f *FS) api.Errno { return f.Write("/f", 420) }},
		{"Symlink", func(f *FS) api.Errno { return f.Symlink("/d/new", "target") }},
		{"Symlink in an empty directory", func(f *FS) api.Errno { return f.Symlink("/d/e/new", "target") }},
		{"Link", func(f *FS) api.Errno { return f.Link("/f", "/d/e/new") }},
		{"Link of a link", func(f *FS) api.Errno { return f.Link("/d/l", "/d/new") }},
		{"Unlink", func(f *FS) api.Errno { return f.Unlink("/f") }},
		{"Unlink of one of two", func(f *FS) api.Errno { return f.Unlink("/d/f") }},
		{"Unlink of the last one", func(f *FS) api.Errno { return f.Unlink("/d/g/h") }},
		{"Rmdir", func(f *FS) api.Errno { return f.Rmdir("/d/e") }},
		{"Remove", func(f *FS) api.Errno { return f.Remove("/d") }},
		{"Remove of a file", func(f *FS) api.Errno { return f.Remove("/d/g/h") }},
		{"Rename", func(f *FS) api.Errno { return f.Rename("/f", "/d/e/new") }},
		{"Rename within a directory", func(f *FS) api.Errno { return f.Rename("/d/f", "/d/new") }},
		{"Rename of a directory", func(f *FS) api.Errno { return f.Rename("/d/g", "/g") }},
	}
}

// ahead are what may have been done since the last Commit, so that a change finds some of its pages written already.
func ahead() []step {
	return []step{
		{"nothing", func(f *FS) api.Errno { return api.OK }},
		{"a Mkdir", func(f *FS) api.Errno { return f.Mkdir("/ahead", 493) }},
		{"a Write", func(f *FS) api.Errno { return f.Write("/d/ahead", 420, text(600, 9)...) }},
		{"an Unlink", func(f *FS) api.Errno { return f.Unlink("/l") }},
	}
}

// crowd writes pages that nobody has, from the last one down, till the cache has so much room left.
func crowd(t *testing.T, f *FS, room int) {
	t.Helper()
	c := cacheOf(f)
	for n := c.Log().Pages() - 1; c.Room() > room; n-- {
		wantError(t, "Write", c.Write(n, bytes.Repeat([]byte{7}, api.SectorBytes)...), api.OK)
	}
}

func wantForgotten(t *testing.T, what string, f *FS, last [][]byte) {
	t.Helper()
	if len(cacheOf(f).Dirty()) != 0 || !slices.EqualFunc(pages(f), last, bytes.Equal) {
		t.Errorf("%s: not as at the last Commit", what)
	}
}

// 'No room', P8.2, P8.3: too much since the last Commit. With each room, from none on, a change is done whole,
// or all since the last Commit is forgotten.
func TestTooMuchSinceTheLastCommit(t *testing.T) {
	f := planted(t)
	last := pages(f)
	for _, first := range ahead() {
		for _, x := range changes() {
			what := x.what + " behind " + first.what
			wantError(t, what, first.do(f), api.OK)
			room := cacheOf(f).Room()
			wantError(t, what, x.do(f), api.OK)
			done, needs := told(t, f), room-cacheOf(f).Room()
			wantError(t, "Abort", f.Abort(), api.OK)
			for room := range needs {
				wantError(t, what, first.do(f), api.OK)
				crowd(t, f, room)
				wantError(t, what+" with too little room", x.do(f), api.ErrFull)
				wantForgotten(t, what, f, last)
			}
			wantError(t, what, first.do(f), api.OK)
			crowd(t, f, needs)
			wantError(t, what+" with just enough room", x.do(f), api.OK)
			if cacheOf(f).Room() != 0 || !slices.Equal(told(t, f), done) {
				t.Errorf("%s with just enough room: not the same", what)
			}
			wantSound(t, f)
			wantError(t, "Abort", f.Abort(), api.OK)
		}
	}
}

// hoard lets just so many pages and inodes be free; what is hoarded is committed.
func hoard(t *testing.T, f *FS, freePages, freeInodes int) {
	t.Helper()
	m := f.Inodes().Map()
	for p, _ := f.Free(); p > freePages; p-- {
		wantError(t, "Page", second(m.Page()), api.OK)
		if cacheOf(f).Room() == 0 {
			commit(t, f)
		}
	}
	for _, i := f.Free(); i > freeInodes; i-- {
		wantError(t, "Inode", second(m.Inode()), api.OK)
	}
	commit(t, f)
}

// 'No room': pages and inodes. With each number of free ones, from none on: done whole, or all since the last Commit is forgotten.
func TestNoPageAndNoInode(t *testing.T) {
	for _, x := range changes() {
		f := planted(t)
		p, i := f.Free()
		wantError(t, x.what, x.do(f), api.OK)
		done := told(t, f)
		q, j := f.Free()
		for missing := range 3 {
			f := planted(t)
			needPages, needInodes := max(p-q, 0), max(i-j, 0)
			switch {
			case missing == 1 && needPages == 0, missing == 2 && needInodes == 0:
				continue
			case missing == 1:
				needPages--
			case missing == 2:
				needInodes--
			}
			hoard(t, f, needPages, needInodes)
			last := pages(f)
			e := x.do(f)
			if missing > 0 {
				wantError(t, x.what+" with too little", e, api.ErrFull)
				wantForgotten(t, x.what, f, last)
				continue
			}
			wantError(t, x.what+" with just enough", e, api.OK)
			if !slices.Equal(told(t, f), done) {
				t.Errorf("%s with just enough: not the same", x.what)
			}
		}
	}
}

// 'No room': all since the last Commit is forgotten, not the call alone.
func TestNoRoomForgetsAll(t *testing.T) {
	f := planted(t)
	last, was := told(t, f), pages(f)
	for _, x := range ahead() {
		wantError(t, x.what, x.do(f), api.OK)
	}
	wantError(t, "Rename", f.Rename("/d/g", "/ahead/g"), api.OK)
	wantError(t, "Write", f.Write("/ahead/g/new", 420, text(60000, 1)...), api.ErrFull)
	wantForgotten(t, "Write", f, was)
	if !slices.Equal(told(t, f), last) {
		t.Error("not what the last Commit kept")
	}
	wantError(t, "Mkdir", f.Mkdir("/ahead", 493), api.OK)
	wantSound(t, f)
}

// P2: other errors come ahead of ErrFull, and forget nothing.
func TestErrorsAheadOfNoRoom(t *testing.T) {
	f := planted(t)
	hoard(t, f, 0, 0)
	wantError(t, "Write anew", f.Write("/d/g/h", 420), api.OK)
	crowd(t, f, 0)
	wantStill(t, "no room", f, func() {
		for path, want := range astray() {
			for _, x := range asking() {
				wantError(t, x.what+" "+path, x.do(f, path), want)
			}
		}
		wantError(t, "Mkdir", f.Mkdir("/d/new", 4096), api.ErrRange)
		wantError(t, "Mkdir", f.Mkdir("/d", 493), api.ErrKnown)
		wantError(t, "Write", f.Write("/new", 420, make([]byte, api.MaxFile+1)...), api.ErrLong)
		wantError(t, "Write", f.Write("/f", 420, make([]byte, api.MaxFile+1)...), api.ErrLong)
		wantError(t, "Write", f.Write("/d", 420), api.ErrDir)
		wantError(t, "Symlink", f.Symlink("/new", ""), api.ErrLong)
		wantError(t, "Link", f.Link("/d", "/new"), api.ErrDir)
		wantError(t, "Rmdir", f.Rmdir("/d"), api.ErrBusy)
		wantError(t, "Rename", f.Rename("/d", "/d/new"), api.ErrBusy)
		told(t, f)
	})
}

// P8.2 (Write), 'ErrLong': MaxFile bytes are more than a Commit takes; one more is too long, and forgets nothing.
func TestLongestFile(t *testing.T) {
	f := planted(t)
	last := told(t, f)
	for _, path := range []string{"/new", "/f"} {
		wantError(t, "Mkdir", f.Mkdir("/ahead", 493), api.OK)
		wantStill(t, "too long", f, func() {
			wantError(t, "Write", f.Write(path, 420, text(api.MaxFile+1, 1)...), api.ErrLong)
		})
		wantError(t, "Write", f.Write(path, 420, text(api.MaxFile, 1)...), api.ErrFull)
		if !slices.Equal(told(t, f), last) {
			t.Error("not what the last Commit kept")
		}
	}
	at, _ := f.on.find("/f")
	for n := 0; n < api.MaxFile; n += 23552 { // in three pieces, each of which a Commit takes
		wantError(t, "Write", f.Inodes().Write(at.inode, n, text(api.MaxFile, 3)[n:n+23552]...), api.OK)
		commit(t, f)
	}
	wantBytes(t, f, "/f", text(api.MaxFile, 3))
	wantStat(t, f, "/f", api.File, 420, 1, api.MaxFile)
	wantSound(t, f)
	wantError(t, "Write", f.Write("/f", 420, 'x'), api.OK)
	wantBytes(t, f, "/f", []byte{'x'})
	wantSound(t, f)
}

// crowdedDir is a file system with a directory /d that has as many names as it may, all of one file, and a file /f and an empty directory /e beside it.
func crowdedDir(t *testing.T) *FS {
	t.Helper()
	f := made(t, 200, 16)
	for _, e := range []api.Errno{f.Mkdir("/d", 493), f.Mkdir("/e", 493), f.Write("/d/0", 420, 'x'), f.Write("/f", 420, 'f')} {
		wantError(t, "planting", e, api.OK)
	}
	for n := 1; n < mostNames; n++ {
		wantError(t, "Link", f.Link("/d/0", "/d/"+strconv.Itoa(n)), api.OK)
		if n%100 == 0 {
			commit(t, f)
		}
	}
	commit(t, f)
	return f
}

// 'ErrLong', also of a directory: as long as a file may be, and one name more; nothing changes, nothing is forgotten.
func TestLongestDirectory(t *testing.T) {
	f := crowdedDir(t)
	wantStat(t, f, "/d", api.Dir, 493, 1, mostNames)
	wantStat(t, f, "/d/0", api.File, 420, mostNames, 1)
	wantError(t, "Symlink", f.Symlink("/waits", "t"), api.OK)
	wantStill(t, "one name more", f, func() {
		wantError(t, "Mkdir", f.Mkdir("/d/new", 493), api.ErrLong)
		wantError(t, "Write", f.Write("/d/new", 420, 1), api.ErrLong)
		wantError(t, "Symlink", f.Symlink("/d/new", "t"), api.ErrLong)
		wantError(t, "Link", f.Link("/f", "/d/new"), api.ErrLong)
		wantError(t, "Link", f.Link("/d/7", "/d/new"), api.ErrLong)
		wantError(t, "Rename", f.Rename("/f", "/d/new"), api.ErrLong)
		wantError(t, "Rename", f.Rename("/e", "/d/new"), api.ErrLong)
		wantError(t, "Mkdir of a known one", f.Mkdir("/d/7", 493), api.ErrKnown)
		wantError(t, "Mkdir, with a wrong mode", f.Mkdir("/d/new", -1), api.ErrRange)
	})
	wantError(t, "Write anew", f.Write("/d/7", 420, 'y'), api.OK)
	wantError(t, "Rename within", f.Rename("/d/7", "/d/new"), api.OK)
	wantBytes(t, f, "/d/new", []byte{'y'})
	wantStat(t, f, "/d", api.Dir, 493, 1, mostNames)
	wantError(t, "Rename out of it", f.Rename("/d/8", "/8"), api.OK)
	wantError(t, "Rename into it", f.Rename("/e", "/d/e"), api.OK)
	wantError(t, "Mkdir", f.Mkdir("/d/8", 493), api.ErrLong)
	wantSound(t, f)
	wantError(t, "Remove", f.Remove("/d"), api.OK)
	wantPaths(t, f, "/", "/", "/8", "/f", "/waits")
	wantStat(t, f, "/8", api.File, 420, 1, 1)
	wantSound(t, f)
}

// P2: a directory that is as long as it may be comes ahead of no room.
func TestLongestDirectoryAndNoRoom(t *testing.T) {
	f := crowdedDir(t)
	hoard(t, f, 0, 0)
	crowd(t, f, 0)
	wantStill(t, "one name more", f, func() {
		wantError(t, "Mkdir", f.Mkdir("/d/new", 493), api.ErrLong)
		wantError(t, "Link", f.Link("/f", "/d/new"), api.ErrLong)
		wantError(t, "Rename", f.Rename("/f", "/d/new"), api.ErrLong)
	})
	wantError(t, "Rename within", f.Rename("/d/7", "/d/new"), api.ErrFull)
}

// P8.8 (E7): what is made and removed again leaves as many pages and inodes free as there were, however many names there are.
func TestMadeAndRemovedAgain(t *testing.T) {
	f := made(t, 200, 64)
	for names := range 50 {
		p, i := f.Free()
		wantError(t, "Mkdir", f.Mkdir("/new", 493), api.OK)
		wantError(t, "Write", f.Write("/new/f", 420, text(6000, 1)...), api.OK)
		wantError(t, "Symlink", f.Symlink("/new/l", "t"), api.OK)
		wantError(t, "Link", f.Link("/new/f", "/second"), api.OK)
		wantError(t, "Mkdir", f.Mkdir("/new/d", 493), api.OK)
		wantError(t, "Write", f.Write("/new/d/g", 420, text(600, 1)...), api.OK)
		commit(t, f)
		if names%2 == 0 {
			wantError(t, "Remove", f.Remove("/second"), api.OK)
			wantError(t, "Remove", f.Remove("/new"), api.OK)
		} else {
			for _, path := range []string{"/new/d/g", "/new/f", "/new/l", "/second"} {
				wantError(t, "Unlink", f.Unlink(path), api.OK)
			}
			wantError(t, "Rmdir", f.Rmdir("/new/d"), api.OK)
			wantError(t, "Rmdir", f.Rmdir("/new"), api.OK)
		}
		if q, j := f.Free(); p != q || i != j {
			t.Errorf("beside %d names: %d pages and %d inodes are free, want %d and %d", names, q, j, p, i)
		}
		wantSound(t, f)
		wantError(t, "Symlink", f.Symlink("/"+strconv.Itoa(names), "t"), api.OK)
		commit(t, f)
	}
}
