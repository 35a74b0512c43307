package fsck

import (
	"strconv"
	"testing"

	"dunnage/api"
	"dunnage/crashes"
	"dunnage/fsys"
	"dunnage/inode"
)

// walked is what Walk finds: as many directories, files and links, each once, and the pages that they need.
func walked(t *testing.T, f *fsys.FS) Report {
	t.Helper()
	found, e := f.Walk("/")
	wantError(t, "Walk", e, api.OK)
	count := map[api.Kind]int{}
	for _, x := range found {
		count[x.Stat.Kind] += 12 / x.Stat.Links // of 1 to 4 names each has its part
	}
	all := f.Inodes().Map()
	pages, _ := f.Free()
	return Report{count[api.Dir] / 12, count[api.File] / 12, count[api.Link] / 12, all.Cache().Log().Pages() - all.First() - pages}
}

// wantSound: P9.2, P9.3 and P9.4, of a file system that nobody has meddled with.
func wantSound(t *testing.T, what string, f *fsys.FS) {
	t.Helper()
	wantReport(t, what, f.Inodes(), walked(t, f))
}

// play does one call of a file system; what it answers plays no part.
func play(f *fsys.FS, next func(int) int) api.Errno {
	path := func() string {
		p := "/" + strconv.Itoa(next(6))
		for next(2) == 0 {
			p += "/" + strconv.Itoa(next(6))
		}
		return p
	}
	switch next(12) {
	case 0, 1, 2:
		return f.Mkdir(path(), next(4096))
	case 3, 4, 5:
		return f.Write(path(), next(4096), text(next(4)*next(2000), next(9))...)
	case 6:
		return f.Symlink(path(), string(text(1+next(api.MaxPath), 1)))
	case 7:
		old := path()
		if s, e := f.Stat(old); e == api.OK && s.Links == 4 {
			return api.OK // more names than walked reckons with
		}
		return f.Link(old, path())
	case 8:
		return f.Unlink(path())
	case 9:
		return f.Rmdir(path())
	case 10:
		return f.Rename(path(), path())
	default:
		if next(4) > 0 {
			return api.OK // so that something grows
		}
		return f.Remove(path())
	}
}

// P9.2 (E4), P9.3 (E7), P9.4: behind each of many calls, with and without room, behind Commit, Abort and Mount.
func TestWhatIsMadeIsSound(t *testing.T) {
	full, names := 0, 0
	for seed := range uint32(16) {
		next := row(seed)
		f := made(t, 20+next(120), 8*(1+next(8)))
		for range 400 {
			switch e := play(f, next); e {
			case api.ErrFull:
				full++
			case api.OK:
				names++
			}
			wantSound(t, "behind a call", f)
			switch next(12) {
			case 0, 1, 2:
				wantError(t, "Commit", f.Commit(), api.OK)
			case 3:
				wantError(t, "Abort", f.Abort(), api.OK)
			case 4:
				var e api.Errno
				f, e = fsys.Mount(f.Disk(), api.MaxGroup)
				wantError(t, "Mount", e, api.OK)
			}
			wantSound(t, "behind a Commit, an Abort, a Mount", f)
			if t.Failed() {
				t.Fatalf("seed %d", seed)
			}
		}
	}
	if full < 100 || names < 1000 {
		t.Errorf("%d calls had no room, %d were done", full, names)
	}
}

// P9.2, P9.3: a file system that is full has its last page, too, in a file, as an indirect one, and in a directory.
func TestFullToTheLastPage(t *testing.T) {
	fill := func(what string, f *fsys.FS, more func() api.Errno) {
		wantError(t, what, more(), api.OK)
		if p, _ := f.Free(); p != 0 || !f.Inodes().Map().Used(lastPage) {
			t.Errorf("%s: %d pages are free", what, p)
		}
		wantSound(t, what, f)
		wantError(t, "Commit", f.Commit(), api.OK)
		wantReport(t, "reloaded", reloaded(t, f.Disk().Image()), walked(t, f))
	}
	rest := func(leave int) *fsys.FS {
		f := made(t, plantedPages, plantedInodes)
		wantError(t, "Mkdir", f.Mkdir("/d", 493), api.OK)
		wantError(t, "Write", f.Write("/ten", 420, text(5120, 1)...), api.OK)
		for n := 0; ; n++ {
			p, _ := f.Free()
			if p == leave {
				return f
			}
			wantError(t, "Write", f.Write("/"+strconv.Itoa(n), 420, text(512*min(p-leave, 10), n)...), api.OK)
		}
	}
	f := rest(1)
	fill("a file", f, func() api.Errno { return f.Write("/f", 420, 'f') })
	f = rest(1)
	fill("a directory", f, func() api.Errno { return f.Mkdir("/d/e", 493) })
	f = rest(1)
	fill("a link", f, func() api.Errno { return f.Symlink("/l", "l") })
	f = rest(12)
	fill("a file with an indirect page", f, func() api.Errno { return f.Write("/f", 420, text(5121, 2)...) })
	wantError(t, "Unlink", f.Unlink("/ten"), api.OK)
	wantSound(t, "the last page is named, others are free", f)
}

// P9.2 (E4), E1: behind a crash at each place within a Commit, and within a Mount behind it.
func TestSoundBehindACrash(t *testing.T) {
	for seed := range uint32(6) {
		next := row(100 + seed)
		f := made(t, 100, 32)
		for range 60 {
			play(f, next)
		}
		wantError(t, "Commit", f.Commit(), api.OK)
		before, from := walked(t, f), f.Disk().Ops()
		for range 1 + next(12) {
			play(f, next)
		}
		after := walked(t, f)
		wantError(t, "Commit", f.Commit(), api.OK)
		for k, left := range crashes.Behind(f.Disk(), from) {
			g, e := fsys.Mount(left, api.MaxGroup)
			wantError(t, "Mount", e, api.OK)
			wantSound(t, "behind a crash", g)
			if r, _ := Check(g.Inodes()); r != before && r != after {
				t.Errorf("behind op %d: %+v, want %+v or %+v", k-from, r, before, after)
			}
		}
	}
}

// P9.2: as many names as a directory may have, and a tree that is deeper than a path may be.
func TestGreatTrees(t *testing.T) {
	f := made(t, 300, 16)
	wantError(t, "Write", f.Write("/f", 420, 'f'), api.OK)
	wantError(t, "Mkdir", f.Mkdir("/d", 493), api.OK)
	names := api.MaxFile / api.EntryBytes
	for n := range names {
		wantError(t, "Link", f.Link("/f", "/d/"+strconv.Itoa(n)), api.OK)
		if n%64 == 0 {
			wantError(t, "Commit", f.Commit(), api.OK)
		}
	}
	wantReport(t, "1104 names", f.Inodes(), Report{Dirs: 2, Files: 1, Pages: 2 + inode.Need(api.MaxFile)})

	f = made(t, 300, 64)
	path := ""
	for range api.MaxDepth {
		path += "/d"
		wantError(t, "Mkdir", f.Mkdir(path, 493), api.OK)
	}
	path = ""
	for range api.MaxDepth - 1 {
		path += "/e"
		wantError(t, "Mkdir", f.Mkdir(path, 493), api.OK)
	}
	wantError(t, "Rename", f.Rename("/d", path+"/d"), api.OK)
	wantReport(t, "31 deep", f.Inodes(), Report{Dirs: 32, Pages: 31})
}
