package union

import (
	"bytes"
	"slices"
	"strconv"
	"testing"

	"dunnage/api"
	"dunnage/fsys"
)

// crowd writes pages that nobody has, from the last one down, till the cache has so much room left.
func crowd(t *testing.T, f *fsys.FS, room int) {
	t.Helper()
	c := cacheOf(f)
	for n := c.Log().Pages() - 1; c.Room() > room; n-- {
		wantError(t, "Write", c.Write(n, bytes.Repeat([]byte{7}, api.SectorBytes)...), api.OK)
	}
}

func wantForgotten(t *testing.T, what string, f *fsys.FS, last [][]byte) {
	t.Helper()
	if len(cacheOf(f).Dirty()) != 0 || !slices.EqualFunc(pages(f), last, bytes.Equal) {
		t.Errorf("%s: not as at the last Commit", what)
	}
}

// P14.2 (ErrFull): too much since the last Commit. With each room, from none on, a tree is laid out whole,
// or all since the last Commit is forgotten: what was done ahead of it, too.
func TestTooMuchSinceTheLastCommit(t *testing.T) {
	for what, tree := range map[string][]api.Node{
		"no nodes": nil, "planted": planted(), "many names": numbered("", 20), "a long file": {file("/a", 1, many(6000))}, "links": {link("/a", many(200)), link("/b", "x")},
	} {
		for _, waits := range []bool{false, true} {
			f := ground(t, 240, 64)
			last := pages(f)
			first := func() {
				if waits {
					wantError(t, "Mkdir", f.Mkdir("/waits", 493), api.OK)
				}
			}
			first()
			room := cacheOf(f).Room()
			wantError(t, what, Lay(f, "/d/r", tree), api.OK)
			needs := room - cacheOf(f).Room()
			wantError(t, "Abort", f.Abort(), api.OK)
			for room := range needs {
				first()
				crowd(t, f, room)
				wantError(t, what+" with too little room", Lay(f, "/d/r", tree), api.ErrFull)
				wantForgotten(t, what, f, last)
			}
			first()
			crowd(t, f, needs)
			wantError(t, what+" with just enough room", Lay(f, "/d/r", tree), api.OK)
			if got := seen(t, f, "/d/r"); !same(got, below("/d/r", tree)) || cacheOf(f).Room() != 0 {
				t.Errorf("%s: %s, a room of %d", what, brief(got), cacheOf(f).Room())
			}
		}
	}
}

// spare leaves so many pages and inodes free, and commits.
func spare(t *testing.T, f *fsys.FS, pages, inodes int) {
	t.Helper()
	wantError(t, "Mkdir", f.Mkdir("/spare", 493), api.OK)
	taken := 0
	for _, free := f.Free(); free > inodes; free-- {
		wantError(t, "Write", f.Write("/spare/"+strconv.Itoa(taken), 420), api.OK)
		taken++
	}
	for k := range taken {
		free, _ := f.Free()
		n := min(free-pages, api.Direct) // those that need no page but their own
		wantError(t, "Write", f.Write("/spare/"+strconv.Itoa(k), 420, make([]byte, max(n, 0)*api.SectorBytes)...), api.OK)
		commit(t, f)
	}
	if p, i := f.Free(); p != pages || i != inodes {
		t.Fatalf("%d pages and %d inodes are free, not %d and %d", p, i, pages, inodes)
	}
}

// P14.2 (ErrFull): too few inodes, too few pages
func TestTooFew(t *testing.T) {
	for inodes := range 12 {
		f := ground(t, 120, 32)
		spare(t, f, 20, inodes)
		wantFullUnless(t, "inodes", f, inodes > len(planted()))
	}
	for pages := range 12 {
		f := ground(t, 100, 32)
		spare(t, f, pages, 15)
		wantFullUnless(t, "pages", f, pages >= 7) // two directories with names, and the new one; two files; two links
	}
}

// wantFullUnless: Lay of planted in a directory that has names finds room, or all since the last Commit is forgotten.
func wantFullUnless(t *testing.T, what string, f *fsys.FS, room bool) {
	t.Helper()
	last := pages(f)
	wantError(t, "Write", f.Write("/f", 7, 'w'), api.OK)
	if room {
		wantError(t, what, Lay(f, "/d/r", planted()), api.OK)
		wantLaid(t, what, f, "/d/r", planted())
		return
	}
	wantError(t, what, Lay(f, "/d/r", planted()), api.ErrFull)
	wantForgotten(t, what, f, last)
}

// wantUnfit: where a tree does not fit, Mkdir's error goes first, as a twin of the file system tells it; else nothing changes.
func wantUnfit(t *testing.T, what string, f, twin *fsys.FS, last [][]byte) api.Errno {
	t.Helper()
	tree := down(api.MaxDepth - 1)
	was := seen(t, f, "/")
	p, i := f.Free()
	want := twin.Mkdir("/d/r", 493)
	if want == api.OK {
		want = api.ErrName
	}
	wantError(t, what, Lay(f, "/d/r", tree), want)
	if want == api.ErrFull {
		wantForgotten(t, what, f, last)
		return want
	}
	if q, k := f.Free(); q != p || k != i || !same(was, seen(t, f, "/")) {
		t.Errorf("%s: something has changed", what)
	}
	return want
}

// twins are two file systems that are alike, with so many names in /d.
func twins(t *testing.T, pages, inodes, names int) [2]*fsys.FS {
	t.Helper()
	two := [2]*fsys.FS{ground(t, pages, inodes), ground(t, pages, inodes)}
	for _, f := range two {
		for k := range names - 1 {
			wantError(t, "Link", f.Link("/f", "/d/"+strconv.Itoa(k)), api.OK)
		}
		commit(t, f)
	}
	return two
}

// P2, P14.2: a node's path that is none, and no room for the directory itself. With 8 names in /d one more needs a page, with 80 names two.
func TestUnfitWithoutRoom(t *testing.T) {
	count := map[api.Errno]int{}
	for _, names := range []int{1, 8, 80} {
		for room := range 14 {
			for _, waits := range []bool{false, true} {
				two := twins(t, 240, 64, names)
				last := pages(two[0])
				for _, f := range two {
					if waits {
						wantError(t, "Write", f.Write("/f", 7, 'w'), api.OK)
					}
					crowd(t, f, room)
				}
				count[wantUnfit(t, "little room", two[0], two[1], last)]++
			}
			for inodes := range 2 {
				two := twins(t, 120, 40, names)
				for _, f := range two {
					spare(t, f, room, inodes)
				}
				last := pages(two[0])
				for _, f := range two {
					wantError(t, "Write", f.Write("/f", 7, 'w'), api.OK)
				}
				count[wantUnfit(t, "few pages or inodes", two[0], two[1], last)]++
			}
		}
	}
	if count[api.ErrFull] < 20 || count[api.ErrName] < 20 {
		t.Errorf("errors: %v", count)
	}
}

// P2, P14.2: Mkdir's ErrLong, in a directory that has as many names as it may, whether the tree fits or not
func TestLayInALongDirectory(t *testing.T) {
	f := ground(t, 240, 64)
	for n := range api.MaxFile/api.EntryBytes - 1 {
		wantError(t, "Link", f.Link("/f", "/d/"+strconv.Itoa(n)), api.OK)
		if n%100 == 0 {
			commit(t, f)
		}
	}
	commit(t, f)
	for _, tree := range [][]api.Node{nil, planted(), down(api.MaxDepth - 1)} {
		wantNotLaid(t, "a long directory", f, "/d/r", tree, api.ErrLong)
	}
	wantNotLaid(t, "beside it", f, "/r", down(api.MaxDepth), api.ErrName)
	wantNotLaid(t, "below it", f, "/d/e/r", down(api.MaxDepth), api.ErrName)
	wantError(t, "below it", Lay(f, "/d/e/r", planted()), api.OK)
	wantTold(t, "below it", f, "/d/e/r", planted()...)
}
