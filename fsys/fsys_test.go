package fsys

import (
	"bytes"
	"slices"
	"strings"
	"testing"

	"dunnage/api"
	"dunnage/bcache"
	"dunnage/disk"
	"dunnage/inode"
)

func wantError(t *testing.T, what string, got, want api.Errno) {
	t.Helper()
	if got != want {
		t.Errorf("%s: error %d, want %d", what, got, want)
	}
}

func second[T any](_ T, e api.Errno) api.Errno {
	return e
}

// text is so many bytes, none of them 0, no two runs of them alike for long.
func text(n, seed int) []byte {
	b := make([]byte, n)
	for i := range b {
		b[i] = byte(1 + (i*7+i/255+seed*31)%255)
	}
	return b
}

// made is a new file system on so many pages, with the greatest log.
func made(t *testing.T, pages, inodes int) *FS {
	t.Helper()
	d, e := disk.New(1 + api.MaxGroup + pages)
	wantError(t, "disk.New", e, api.OK)
	f, e := Make(d, api.MaxGroup, inodes)
	if f == nil || e != api.OK {
		t.Fatalf("Make: error %d", e)
	}
	return f
}

func mounted(t *testing.T, d *disk.Disk) *FS {
	t.Helper()
	f, e := Mount(d, api.MaxGroup)
	if f == nil || e != api.OK {
		t.Fatalf("Mount: error %d", e)
	}
	return f
}

func cacheOf(f *FS) *bcache.Cache {
	return f.Inodes().Map().Cache()
}

func commit(t *testing.T, f *FS) {
	t.Helper()
	wantError(t, "Commit", f.Commit(), api.OK)
}

// planted is a committed file system of 240 pages and 32 inodes, on which the other tests look for paths:
// directories /d, /d/e (empty) and /d/g (with a file), files /f, /d/f and /d/g/h, links /l and /d/l; /d/f is /d/k, too.
func planted(t *testing.T) *FS {
	t.Helper()
	f := made(t, 240, 32)
	for _, e := range []api.Errno{
		f.Mkdir("/d", 493), f.Mkdir("/d/e", 448), f.Mkdir("/d/g", 0),
		f.Write("/f", 420, text(6000, 1)...), f.Write("/d/f", 384, []byte("two names")...), f.Write("/d/g/h", 4095),
		f.Symlink("/l", "d"), f.Symlink("/d/l", "/nowhere"), f.Link("/d/f", "/d/k"),
	} {
		wantError(t, "planting", e, api.OK)
	}
	commit(t, f)
	return f
}

// sight is what a path leads to, with its bytes.
type sight struct {
	api.Found
	bytes string
}

// told is all that a file system tells by its paths.
func told(t *testing.T, f *FS) []sight {
	t.Helper()
	found, e := f.Walk("/")
	wantError(t, "Walk", e, api.OK)
	var all []sight
	for _, x := range found {
		s := sight{Found: x}
		if x.Stat.Kind != api.Dir {
			at, _ := f.on.follow(strings.Split(x.Path, "/")[1:]...) // Read takes no path that is too long
			b, e := f.Inodes().Read(at.inode, 0, api.MaxFile)
			wantError(t, "Read", e, api.OK)
			s.bytes = string(b)
		}
		all = append(all, s)
	}
	return all
}

// pages are all pages as the cache tells them.
func pages(f *FS) [][]byte {
	var all [][]byte
	for n := range cacheOf(f).Log().Pages() {
		b, _ := cacheOf(f).Read(n)
		all = append(all, b)
	}
	return all
}

// wantStill: nothing changes, and nothing that waits for a Commit is forgotten.
func wantStill(t *testing.T, what string, f *FS, call func()) {
	t.Helper()
	was, dirty, ops := pages(f), cacheOf(f).Dirty(), f.Disk().Ops()
	call()
	if !slices.EqualFunc(was, pages(f), bytes.Equal) || !slices.Equal(dirty, cacheOf(f).Dirty()) || ops != f.Disk().Ops() {
		t.Errorf("%s: something has changed", what)
	}
}

// wantSound: as far as this layer knows (chapter 8, 'Words'; E7): the links are the names, nothing is lost, nothing is taken twice.
func wantSound(t *testing.T, f *FS) {
	t.Helper()
	names, s := map[int]int{}, f.Inodes()
	for _, i := range f.on.below("/", root) {
		names[i]++
	}
	taken := map[int]int{}
	for i, count := range names {
		node, e := s.Get(i)
		if e != api.OK || node.Links != count || node.Kind == api.Dir && count != 1 {
			t.Errorf("inode %d has %d names, and is %v, error %d", i, count, node, e)
		}
		list, _ := s.Pages(i)
		for _, n := range list {
			taken[n]++
			if taken[n] > 1 || !s.Map().Used(n) {
				t.Errorf("page %d of inode %d is free, or another one's, too", n, i)
			}
		}
	}
	total := cacheOf(f).Log().Pages() - s.Map().First()
	if p, i := f.Free(); p != total-len(taken) || i != s.Map().Inodes()-1-len(names) {
		t.Errorf("%d pages and %d inodes are free, want %d and %d", p, i, total-len(taken), s.Map().Inodes()-1-len(names))
	}
}

func wantBytes(t *testing.T, f *FS, path string, want []byte) {
	t.Helper()
	if b, e := f.Read(path); e != api.OK || !bytes.Equal(b, want) {
		t.Errorf("Read(%s): %d bytes, error %d, want %d bytes", path, len(b), e, len(want))
	}
}

func wantStat(t *testing.T, f *FS, path string, k api.Kind, mode, links, size int) {
	t.Helper()
	want := api.Stat{Kind: k, Mode: mode, Links: links, Size: size}
	if s, e := f.Stat(path); s != want || e != api.OK {
		t.Errorf("Stat(%s): %v, error %d, want %v", path, s, e, want)
	}
}

func wantList(t *testing.T, f *FS, path string, want ...string) {
	t.Helper()
	if names, e := f.List(path); e != api.OK || !slices.Equal(names, want) {
		t.Errorf("List(%s): %q, error %d, want %q", path, names, e, want)
	}
}

// wantPaths: the paths of a Walk, in their order.
func wantPaths(t *testing.T, f *FS, path string, want ...string) {
	t.Helper()
	found, e := f.Walk(path)
	wantError(t, "Walk", e, api.OK)
	var paths []string
	for _, x := range found {
		paths = append(paths, x.Path)
		if s, e := f.Stat(x.Path); e == api.OK && s != x.Stat {
			t.Errorf("Walk(%s): %v, but Stat %v", path, x, s)
		}
	}
	if !slices.Equal(paths, want) {
		t.Errorf("Walk(%s): %q, want %q", path, paths, want)
	}
}

func wantGone(t *testing.T, f *FS, path string) {
	t.Helper()
	if s, e := f.Stat(path); s != (api.Stat{}) || e != api.ErrNone {
		t.Errorf("Stat(%s): %v, error %d, want none", path, s, e)
	}
}

// The example of chapter 8
func TestExample(t *testing.T) {
	f := made(t, 40, 16)
	wantError(t, "Mkdir", f.Mkdir("/a", 493), api.OK)
	wantError(t, "Write", f.Write("/a/f", 420, 'h', 'i'), api.OK)
	wantError(t, "Link", f.Link("/a/f", "/g"), api.OK)
	wantStat(t, f, "/g", api.File, 420, 2, 2)
	wantError(t, "Unlink", f.Unlink("/a/f"), api.OK)
	wantBytes(t, f, "/g", []byte("hi"))
	wantStat(t, f, "/g", api.File, 420, 1, 2)
	wantError(t, "Rmdir", f.Rmdir("/a"), api.OK)
	wantError(t, "Rename", f.Rename("/g", "/g/h"), api.ErrBusy)
	wantPaths(t, f, "/", "/", "/g")
}

// P8.2 (Mkdir, Symlink), P8.4
func TestMakeAndLook(t *testing.T) {
	f := planted(t)
	wantStat(t, f, "/", api.Dir, 493, 1, 3)
	wantStat(t, f, "/d", api.Dir, 493, 1, 5)
	wantStat(t, f, "/d/e", api.Dir, 448, 1, 0)
	wantStat(t, f, "/d/g", api.Dir, 0, 1, 1)
	wantStat(t, f, "/f", api.File, 420, 1, 6000)
	wantStat(t, f, "/d/f", api.File, 384, 2, 9)
	wantStat(t, f, "/d/k", api.File, 384, 2, 9)
	wantStat(t, f, "/d/g/h", api.File, 4095, 1, 0)
	wantStat(t, f, "/l", api.Link, 511, 1, 1)
	wantStat(t, f, "/d/l", api.Link, 511, 1, 8)
	wantList(t, f, "/", "d", "f", "l")
	wantList(t, f, "/d", "e", "f", "g", "k", "l")
	wantList(t, f, "/d/e")
	wantBytes(t, f, "/f", text(6000, 1))
	wantBytes(t, f, "/d/k", []byte("two names"))
	wantBytes(t, f, "/d/g/h", nil)
	for path, want := range map[string]string{"/l": "d", "/d/l": "/nowhere"} {
		if target, e := f.Target(path); target != want || e != api.OK {
			t.Errorf("Target(%s): %q, error %d", path, target, e)
		}
	}
	wantSound(t, f)
	wantStill(t, "looking", f, func() { told(t, f); f.Free(); f.Inodes(); f.Disk() })
}

// P8.4 (Walk): a directory ahead of what is in it, names by their bytes, which is not the order of the paths.
func TestWalk(t *testing.T) {
	f := planted(t)
	wantPaths(t, f, "/", "/", "/d", "/d/e", "/d/f", "/d/g", "/d/g/h", "/d/k", "/d/l", "/f", "/l")
	wantPaths(t, f, "/d", "/d", "/d/e", "/d/f", "/d/g", "/d/g/h", "/d/k", "/d/l")
	wantPaths(t, f, "/d/g", "/d/g", "/d/g/h")
	wantPaths(t, f, "/d/e", "/d/e")
	wantPaths(t, f, "/d/f", "/d/f")
	wantPaths(t, f, "/l", "/l")
	for _, path := range []string{"/d-", "/d.", "/d0", "/\xff", "/D", "/d/g-", "/d/g/i"} {
		wantError(t, "Mkdir", f.Mkdir(path, 493), api.OK)
	}
	wantPaths(t, f, "/", "/", "/D", "/d", "/d/e", "/d/f", "/d/g", "/d/g/h", "/d/g/i", "/d/g-", "/d/k", "/d/l", "/d-", "/d.", "/d0", "/f", "/l", "/\xff")
	found, _ := f.Walk("/d/g")
	want := []api.Found{
		{Path: "/d/g", Stat: api.Stat{Kind: api.Dir, Mode: 0, Links: 1, Size: 2}},
		{Path: "/d/g/h", Stat: api.Stat{Kind: api.File, Mode: 4095, Links: 1}},
		{Path: "/d/g/i", Stat: api.Stat{Kind: api.Dir, Mode: 493, Links: 1}},
	}
	if !slices.Equal(found, want) {
		t.Errorf("Walk(/d/g): %v", found)
	}
}

// P8.2 (Write), P8.6: what was written is read, till it is written anew; with a new mode, by all names.
func TestWriteAnew(t *testing.T) {
	f := made(t, 120, 16)
	sizes := []int{0, 1, 511, 512, 513, 5119, 5120, 5121, 9000}
	for a, from := range sizes {
		for b, to := range sizes {
			wantError(t, "Write", f.Write("/f", 420, text(from, a)...), api.OK)
			wantError(t, "Link", f.Link("/f", "/g"), api.OK)
			commit(t, f)
			wantError(t, "Write", f.Write("/g", b, text(to, b+5)...), api.OK)
			wantBytes(t, f, "/f", text(to, b+5))
			wantBytes(t, f, "/g", text(to, b+5))
			wantStat(t, f, "/f", api.File, b, 2, to)
			wantSound(t, f)
			wantError(t, "Unlink", f.Unlink("/f"), api.OK)
			wantStat(t, f, "/g", api.File, b, 1, to)
			wantError(t, "Unlink", f.Unlink("/g"), api.OK)
			commit(t, f)
		}
	}
}

// P8.2: modes 0 and 4095, and what lies beside them; ErrRange comes ahead of all that may be wrong with a path.
func TestModes(t *testing.T) {
	f := made(t, 40, 16)
	for n, mode := range []int{0, 1, 511, 4094, 4095} {
		path := "/" + string(rune('a'+n))
		wantError(t, "Mkdir", f.Mkdir(path, mode), api.OK)
		wantStat(t, f, path, api.Dir, mode, 1, 0)
		wantError(t, "Write", f.Write(path+"/f", mode, 1), api.OK)
		wantStat(t, f, path+"/f", api.File, mode, 1, 1)
		wantError(t, "Write anew", f.Write(path+"/f", 4095-mode, 1), api.OK)
		wantStat(t, f, path+"/f", api.File, 4095-mode, 1, 1)
	}
	for _, mode := range []int{-1, 4096, 1 << 16, -4096, 1 << 62, -1 << 63} {
		for _, path := range []string{"/x", "/a", "/a/f", "/", "", "/x/y", "/a/f/g"} {
			wantStill(t, "a wrong mode", f, func() {
				wantError(t, "Mkdir", f.Mkdir(path, mode), api.ErrRange)
				wantError(t, "Write", f.Write(path, mode, 1), api.ErrRange)
				wantError(t, "Write", f.Write(path, mode, make([]byte, api.MaxFile+1)...), api.ErrRange)
			})
		}
	}
}

// P8.2 (Symlink), P8.4 (Target), E3: targets of any bytes.
func TestTargets(t *testing.T) {
	f := made(t, 60, 32)
	for n, target := range []string{"a", "/", "..", "", "\x00", "\xff/\x00//", strings.Repeat("t", api.MaxPath), strings.Repeat("t", api.MaxPath+1), strings.Repeat("/", 70000)} {
		path := "/" + string(rune('a'+n))
		want := api.OK
		if target == "" || len(target) > api.MaxPath {
			want = api.ErrLong
		}
		wantError(t, "Symlink", f.Symlink(path, target), want)
		if want != api.OK {
			wantGone(t, f, path)
			wantError(t, "Symlink", f.Symlink("", target), api.ErrLong)
			wantError(t, "Symlink", f.Symlink("/", target), api.ErrLong)
			wantError(t, "Symlink", f.Symlink("/x/y", target), api.ErrLong)
			continue
		}
		if got, e := f.Target(path); got != target || e != api.OK {
			t.Errorf("Target: %q, error %d, want %q", got, e, target)
		}
		wantStat(t, f, path, api.Link, 511, 1, len(target))
	}
	wantSound(t, f)
}

// P8.2 (Link), P8.3 (Unlink): names of one inode, of a file and of a link; it goes with the last one.
func TestNamesOfOneInode(t *testing.T) {
	f := planted(t)
	p, i := f.Free()
	wantError(t, "Link", f.Link("/d/k", "/m"), api.OK)
	wantError(t, "Link", f.Link("/l", "/d/e/n"), api.OK)
	wantStat(t, f, "/d/f", api.File, 384, 3, 9)
	wantStat(t, f, "/d/e/n", api.Link, 511, 2, 1)
	if q, j := f.Free(); p-q != 1 || i != j {
		t.Errorf("%d pages and %d inodes more are taken, want 1 (of /d/e) and none", p-q, i-j)
	}
	wantSound(t, f)
	for _, path := range []string{"/d/f", "/d/k", "/l", "/d/e/n"} {
		wantError(t, "Unlink", f.Unlink(path), api.OK)
		wantGone(t, f, path)
		wantSound(t, f)
	}
	wantStat(t, f, "/m", api.File, 384, 1, 9)
	wantBytes(t, f, "/m", []byte("two names"))
	wantError(t, "Unlink", f.Unlink("/m"), api.OK)
	if q, j := f.Free(); q-p != 2 || j-i != 2 {
		t.Errorf("%d pages and %d inodes are free again, want 2 and 2", q-p, j-i)
	}
	wantSound(t, f)
}

// P8.3 (Rmdir, Remove)
func TestRemove(t *testing.T) {
	f := planted(t)
	wantError(t, "Rmdir", f.Rmdir("/d/e"), api.OK)
	wantGone(t, f, "/d/e")
	wantError(t, "Remove", f.Remove("/d/g/h"), api.OK)
	wantError(t, "Rmdir", f.Rmdir("/d/g"), api.OK)
	wantError(t, "Remove of a link", f.Remove("/l"), api.OK)
	wantError(t, "Remove of a file", f.Remove("/d/k"), api.OK)
	wantStat(t, f, "/d/f", api.File, 384, 1, 9)
	wantPaths(t, f, "/", "/", "/d", "/d/f", "/d/l", "/f")
	wantSound(t, f)
	wantError(t, "Remove of a directory", f.Remove("/d"), api.OK)
	wantPaths(t, f, "/", "/", "/f")
	wantSound(t, f)
}

// P8.3 (Remove): a file with names inside and outside; it has as many links as names.
func TestRemoveNamesInsideAndOutside(t *testing.T) {
	f := planted(t)
	for _, path := range []string{"/m", "/d/e/n", "/d/g/o"} {
		wantError(t, "Link", f.Link("/d/f", path), api.OK)
	}
	wantStat(t, f, "/m", api.File, 384, 5, 9)
	wantError(t, "Remove", f.Remove("/d/g"), api.OK)
	wantStat(t, f, "/m", api.File, 384, 4, 9)
	wantError(t, "Remove", f.Remove("/d"), api.OK)
	wantStat(t, f, "/m", api.File, 384, 1, 9)
	wantBytes(t, f, "/m", []byte("two names"))
	wantPaths(t, f, "/", "/", "/f", "/l", "/m")
	wantSound(t, f)
}

// P8.3 (Rename): a file, a link, a directory with all that is in it; to another directory, and within one.
func TestRename(t *testing.T) {
	f := planted(t)
	for _, x := range []struct{ old, path string }{
		{"/f", "/d/e/f2"}, {"/d/f", "/d/f2"}, {"/l", "/d/g/l"}, {"/d/g", "/g"}, {"/d/e", "/g/e"}, {"/d", "/dd"}, {"/dd/k", "/k"},
	} {
		was, _ := f.Stat(x.old)
		_, i := f.Free()
		wantError(t, "Rename of "+x.old, f.Rename(x.old, x.path), api.OK)
		if s, e := f.Stat(x.path); s != was || e != api.OK {
			t.Errorf("Stat(%s): %v, error %d, want %v", x.path, s, e, was)
		}
		if _, j := f.Free(); i != j {
			t.Errorf("Rename of %s: %d inodes are free, want %d", x.old, j, i)
		}
		wantGone(t, f, x.old)
		wantSound(t, f)
	}
	wantPaths(t, f, "/", "/", "/dd", "/dd/f2", "/dd/l", "/g", "/g/e", "/g/e/f2", "/g/h", "/g/l", "/k")
	wantBytes(t, f, "/g/e/f2", text(6000, 1))
	wantBytes(t, f, "/k", []byte("two names"))
}

// P8.3 (Rename): what only begins with the same letters does not go through it.
func TestRenameBeside(t *testing.T) {
	f := made(t, 40, 16)
	for _, path := range []string{"/a", "/ab", "/a/b"} {
		wantError(t, "Mkdir", f.Mkdir(path, 493), api.OK)
	}
	wantError(t, "Rename", f.Rename("/a", "/ab/a"), api.OK)
	wantError(t, "Rename", f.Rename("/ab/a/b", "/ab/b"), api.OK)
	wantError(t, "Rename", f.Rename("/ab/a", "/a"), api.OK)
	wantPaths(t, f, "/", "/", "/a", "/ab", "/ab/b")
	wantSound(t, f)
}

// P8.9: renamed there and back all is as it was.
func TestRenameThereAndBack(t *testing.T) {
	f := planted(t)
	was := told(t, f)
	p, i := f.Free()
	for _, old := range []string{"/d", "/f", "/l", "/d/e", "/d/f", "/d/g", "/d/g/h", "/d/k", "/d/l"} {
		for _, path := range []string{"/x", "/d/x", "/d/e/x", "/d/g/x", "/a", "/d/zz"} {
			e := f.Rename(old, path)
			if through, _ := goesThrough(path, old); through {
				wantError(t, "Rename", e, api.ErrBusy)
				continue
			}
			wantError(t, "Rename there", e, api.OK)
			wantSound(t, f)
			wantError(t, "Rename back", f.Rename(path, old), api.OK)
			if !slices.Equal(told(t, f), was) {
				t.Errorf("%s to %s and back: something has changed", old, path)
			}
			if q, j := f.Free(); p != q || i != j {
				t.Errorf("%s to %s and back: %d pages, %d inodes are free", old, path, q, j)
			}
			wantSound(t, f)
		}
	}
}

// P8.5: Inodes is itself; Free is the map's.
func TestInodes(t *testing.T) {
	f := planted(t)
	if f.Inodes() == nil || f.Inodes() != f.Inodes() {
		t.Error("Inodes are others each time")
	}
	if node, e := f.Inodes().Get(root); node.Kind != api.Dir || e != api.OK {
		t.Errorf("inode 1: %v, error %d", node, e)
	}
	p, i := f.Free()
	if q, j := f.Inodes().Map().Free(); p != q || i != j {
		t.Errorf("Free: %d and %d, but the map says %d and %d", p, i, q, j)
	}
	if need := inode.Need(6000); p != 233-need-6 || i != 22 {
		t.Errorf("Free: %d pages, %d inodes", p, i)
	}
}
