package fsys

import (
	"slices"
	"strings"
	"testing"

	"dunnage/api"
)

// noPaths are texts that are no paths.
func noPaths() []string {
	long := "/" + strings.Repeat("x", api.MaxName)
	return []string{
		"", "d", "d/f", "/d/", "//", "//d", "/d//f", "/.", "/..", "/./d", "/d/../f", "/d/.", "/\x00", "/d\x00", "/d/f\x00",
		long + "x", "/d" + long + "x", long + "x/f", long + long + long + long + "/fifteen letters", strings.Repeat("/d", api.MaxDepth+1), strings.Repeat("/x", 9000),
	}
}

// astray are paths that lead to nothing, with the errors that the words of chapter 8 give them, on what planted made.
func astray() map[string]api.Errno {
	long := "/" + strings.Repeat("x", api.MaxName)
	all := map[string]api.Errno{
		"/x": api.ErrNone, "/d/x": api.ErrNone, "/d/e/x": api.ErrNone, "/D": api.ErrNone, "/d ": api.ErrNone, "/h": api.ErrNone,
		"/x/y": api.ErrNone, "/x/y/z": api.ErrNone, "/d/x/f": api.ErrNone, "/e/f": api.ErrNone, "/d/e/f/g": api.ErrNone,
		"/f/x": api.ErrDir, "/f/x/y": api.ErrDir, "/d/f/x": api.ErrDir, "/d/k/f": api.ErrDir, "/f/f": api.ErrDir, "/d/k/f/i/j": api.ErrDir,
		"/l/x": api.ErrDir, "/l/f": api.ErrDir, "/l/e": api.ErrDir, "/d/l/x": api.ErrDir, "/l/f/x": api.ErrDir,
		long: api.ErrNone, "/d" + long: api.ErrNone, long + long + long + long + "/fourteen chars": api.ErrNone,
		"/f" + strings.Repeat("/d", api.MaxDepth-1): api.ErrDir, "/x" + strings.Repeat("/d", api.MaxDepth-1): api.ErrNone,
	}
	for _, path := range noPaths() {
		all[path] = api.ErrName
	}
	return all
}

// taken are paths that lead to something.
func taken() []string {
	return []string{"/", "/d", "/d/e", "/d/f", "/d/g", "/d/g/h", "/d/k", "/d/l", "/f", "/l"}
}

// call is one of a path, whose errors may be the path's.
type call struct {
	what string
	do   func(f *FS, path string) api.Errno
}

func asking() []call {
	return []call{
		{"Link of", func(f *FS, path string) api.Errno { return f.Link(path, "/new") }},
		{"Link of, onto what is there", func(f *FS, path string) api.Errno { return f.Link(path, "/f") }},
		{"Link of, onto no path", func(f *FS, path string) api.Errno { return f.Link(path, "") }},
		{"Unlink", (*FS).Unlink},
		{"Rmdir", (*FS).Rmdir},
		{"Remove", (*FS).Remove},
		{"Rename of", func(f *FS, path string) api.Errno { return f.Rename(path, "/new") }},
		{"Rename of, onto what is there", func(f *FS, path string) api.Errno { return f.Rename(path, "/f") }},
		{"Rename of, onto no path", func(f *FS, path string) api.Errno { return f.Rename(path, "") }},
		{"Rename of, onto itself", func(f *FS, path string) api.Errno { return f.Rename(path, path) }},
		{"Read", func(f *FS, path string) api.Errno { return second(f.Read(path)) }},
		{"Target", func(f *FS, path string) api.Errno { return second(f.Target(path)) }},
		{"Stat", func(f *FS, path string) api.Errno { return second(f.Stat(path)) }},
		{"List", func(f *FS, path string) api.Errno { return second(f.List(path)) }},
		{"Walk", func(f *FS, path string) api.Errno { return second(f.Walk(path)) }},
	}
}

// making are calls of a new path.
func making() []call {
	return []call{
		{"Mkdir", func(f *FS, path string) api.Errno { return f.Mkdir(path, 493) }},
		{"Symlink", func(f *FS, path string) api.Errno { return f.Symlink(path, "t") }},
		{"Link", func(f *FS, path string) api.Errno { return f.Link("/f", path) }},
		{"Link of a link", func(f *FS, path string) api.Errno { return f.Link("/l", path) }},
		{"Rename", func(f *FS, path string) api.Errno { return f.Rename("/d/g/h", path) }},
	}
}

// 'A path leads to', P8.2 to P8.4, P2: no path, a missing name, a file or a link ahead; nothing changes.
func TestPathsAstray(t *testing.T) {
	f := planted(t)
	wantError(t, "Mkdir", f.Mkdir("/d/e/waits", 493), api.OK)
	for path, want := range astray() {
		wantStill(t, path, f, func() {
			for _, x := range asking() {
				wantError(t, x.what+" "+path, x.do(f, path), want)
			}
			b, _ := f.Read(path)
			target, _ := f.Target(path)
			s, _ := f.Stat(path)
			names, _ := f.List(path)
			found, _ := f.Walk(path)
			if len(b) != 0 || target != "" || s != (api.Stat{}) || len(names) != 0 || len(found) != 0 {
				t.Errorf("%s: something is answered with an error", path)
			}
		})
	}
}

// parent is the path ahead of the last name.
func parent(path string) string {
	return path[:max(strings.LastIndex(path, "/"), 1)]
}

// 'A new path', P8.2, P8.3, P2: its parent leads to a directory, and it to nothing.
func TestNewPaths(t *testing.T) {
	for path, want := range astray() {
		f := planted(t)
		for _, x := range append(making(), call{"Write", func(f *FS, path string) api.Errno { return f.Write(path, 420, 1) }}) {
			if want == api.ErrNone && second(f.Stat(parent(path))) == api.OK {
				wantError(t, x.what+" "+path, x.do(f, path), api.OK)
				wantError(t, x.what+" "+path, second(f.Stat(path)), api.OK)
				wantSound(t, f)
				wantError(t, "Abort", f.Abort(), api.OK)
				continue
			}
			wantStill(t, path, f, func() { wantError(t, x.what+" "+path, x.do(f, path), want) })
		}
	}
	f := planted(t)
	for _, path := range taken() {
		wantStill(t, path, f, func() {
			for _, x := range making() {
				wantError(t, x.what+" "+path, x.do(f, path), api.ErrKnown)
			}
		})
	}
}

// P8.2 to P8.4: what each call asks of that which a path leads to.
func TestKinds(t *testing.T) {
	dirs, files, links := []string{"/", "/d", "/d/e", "/d/g"}, []string{"/f", "/d/f", "/d/k", "/d/g/h"}, []string{"/l", "/d/l"}
	f := planted(t)
	wantKinds(t, f, "Write", api.ErrDir, func(path string) api.Errno { return f.Write(path, 420, 1) }, dirs, links)
	wantKinds(t, f, "Write, too long", api.ErrDir, func(path string) api.Errno { return f.Write(path, 420, make([]byte, api.MaxFile+1)...) }, dirs, links)
	wantKinds(t, f, "Write, too long", api.ErrLong, func(path string) api.Errno { return f.Write(path, 420, make([]byte, api.MaxFile+1)...) }, files)
	wantKinds(t, f, "Link", api.ErrDir, func(path string) api.Errno { return f.Link(path, "/new") }, dirs)
	wantKinds(t, f, "Link onto no path", api.ErrDir, func(path string) api.Errno { return f.Link(path, "") }, dirs)
	wantKinds(t, f, "Link onto no path", api.ErrName, func(path string) api.Errno { return f.Link(path, "") }, files, links)
	wantKinds(t, f, "Unlink", api.ErrDir, f.Unlink, dirs)
	wantKinds(t, f, "Rmdir", api.ErrDir, f.Rmdir, files, links)
	wantKinds(t, f, "Rmdir", api.ErrBusy, f.Rmdir, []string{"/", "/d", "/d/g"})
	wantKinds(t, f, "Remove", api.ErrBusy, f.Remove, []string{"/"})
	wantKinds(t, f, "Read", api.ErrDir, func(path string) api.Errno { return second(f.Read(path)) }, dirs, links)
	wantKinds(t, f, "Target", api.ErrDir, func(path string) api.Errno { return second(f.Target(path)) }, dirs, files)
	wantKinds(t, f, "List", api.ErrDir, func(path string) api.Errno { return second(f.List(path)) }, files, links)
	wantKinds(t, f, "Stat", api.OK, func(path string) api.Errno { return second(f.Stat(path)) }, dirs, files, links)
	wantKinds(t, f, "Walk", api.OK, func(path string) api.Errno { return second(f.Walk(path)) }, dirs, files, links)
	for _, path := range slices.Concat(dirs, links) {
		if b, _ := f.Read(path); len(b) != 0 {
			t.Errorf("Read(%s): %d bytes with an error", path, len(b))
		}
	}
	for _, path := range slices.Concat(dirs, files) {
		if target, _ := f.Target(path); target != "" {
			t.Errorf("Target(%s): %q with an error", path, target)
		}
	}
}

func wantKinds(t *testing.T, f *FS, what string, want api.Errno, do func(path string) api.Errno, lists ...[]string) {
	t.Helper()
	for _, path := range slices.Concat(lists...) {
		wantStill(t, what, f, func() { wantError(t, what+" "+path, do(path), want) })
	}
}

// P8.3: the root is busy, also if nothing is in it.
func TestEmptyRoot(t *testing.T) {
	f := made(t, 40, 8)
	wantStill(t, "the root", f, func() {
		wantError(t, "Rmdir", f.Rmdir("/"), api.ErrBusy)
		wantError(t, "Remove", f.Remove("/"), api.ErrBusy)
		wantError(t, "Unlink", f.Unlink("/"), api.ErrDir)
		wantError(t, "Mkdir", f.Mkdir("/", 493), api.ErrKnown)
		wantError(t, "Write", f.Write("/", 420), api.ErrDir)
		wantError(t, "Symlink", f.Symlink("/", "t"), api.ErrKnown)
		wantError(t, "Link", f.Link("/", "/x"), api.ErrDir)
		wantError(t, "Link", f.Link("/", "/"), api.ErrDir)
		wantError(t, "Rename", f.Rename("/", "/"), api.ErrBusy)
		wantError(t, "Rename", f.Rename("/", "/x"), api.ErrBusy)
		wantError(t, "Rename", f.Rename("/", ""), api.ErrBusy)
		wantError(t, "Read", second(f.Read("/")), api.ErrDir)
		wantError(t, "Target", second(f.Target("/")), api.ErrDir)
	})
	wantList(t, f, "/")
	wantPaths(t, f, "/", "/")
}

// P8.3 (Rename), P2: its errors in their order.
func TestRenameErrors(t *testing.T) {
	f := planted(t)
	long := strings.Repeat("/x", api.MaxDepth+1)
	for _, x := range []struct {
		old, path string
		want      api.Errno
	}{
		{"", "", api.ErrName}, {"/x", "", api.ErrNone}, {"/f/x", "", api.ErrDir}, {"/l/f", "/", api.ErrDir}, // of old
		{"/", "", api.ErrBusy}, {"/", "/x", api.ErrBusy}, {"/", "/d", api.ErrBusy}, // the root
		{"/d", "", api.ErrName}, {"/d", "x", api.ErrName}, {"/d", "/d/", api.ErrName}, {"/d", "/d/..", api.ErrName}, {"/d", "/d" + long, api.ErrName},
		{"/d", "/d/x", api.ErrBusy}, {"/d", "/d/e", api.ErrBusy}, {"/d", "/d/e/x", api.ErrBusy}, {"/d", "/d/x/y", api.ErrBusy}, {"/d", "/d/f/x", api.ErrBusy},
		{"/f", "/f/x", api.ErrBusy}, {"/f", "/f/x/y", api.ErrBusy}, {"/l", "/l/x", api.ErrBusy}, {"/d/g", "/d/g/h", api.ErrBusy}, {"/d/g", "/d/g/h/i", api.ErrBusy},
		{"/d", "/x/y", api.ErrNone}, {"/d", "/f/x", api.ErrDir}, {"/d", "/l/x", api.ErrDir}, {"/f", "/d/x/y", api.ErrNone}, {"/f", "/d/f/y", api.ErrDir},
		{"/d", "/", api.ErrKnown}, {"/d", "/d", api.ErrKnown}, {"/d", "/f", api.ErrKnown}, {"/f", "/d", api.ErrKnown}, {"/f", "/f", api.ErrKnown},
		{"/l", "/l", api.ErrKnown}, {"/d/e", "/d", api.ErrKnown}, {"/d/f", "/d/k", api.ErrKnown}, {"/f", "/d/g/h", api.ErrKnown}, {"/d/e", "/d/g", api.ErrKnown},
	} {
		wantStill(t, "Rename", f, func() {
			wantError(t, "Rename "+x.old+" to "+x.path, f.Rename(x.old, x.path), x.want)
		})
	}
}

// P8.2 (Link), P2: its errors in their order.
func TestLinkErrors(t *testing.T) {
	f := planted(t)
	for _, x := range []struct {
		old, path string
		want      api.Errno
	}{
		{"", "/", api.ErrName}, {"/x", "", api.ErrNone}, {"/f/x", "", api.ErrDir}, {"/x/y", "/f", api.ErrNone},
		{"/d", "", api.ErrDir}, {"/d", "/f", api.ErrDir}, {"/d", "/d/x", api.ErrDir}, {"/", "/", api.ErrDir},
		{"/f", "", api.ErrName}, {"/f", "/x/y", api.ErrNone}, {"/f", "/f/x", api.ErrDir}, {"/f", "/l/x", api.ErrDir},
		{"/f", "/", api.ErrKnown}, {"/f", "/f", api.ErrKnown}, {"/f", "/l", api.ErrKnown}, {"/f", "/d", api.ErrKnown}, {"/d/f", "/d/k", api.ErrKnown},
	} {
		wantStill(t, "Link", f, func() {
			wantError(t, "Link "+x.old+" to "+x.path, f.Link(x.old, x.path), x.want)
		})
	}
}

// DOC.md 'Words', 'A path leads to': MaxDepth names and MaxPath bytes, each of them there.
func TestLongestPaths(t *testing.T) {
	f := made(t, 60, 64)
	path := ""
	for n := range api.MaxDepth {
		length := 15
		if n == 0 {
			length = 14
		}
		path += "/" + strings.Repeat("n", length)
		wantError(t, "Mkdir", f.Mkdir(path, 493), api.OK)
	}
	if len(path) != api.MaxPath {
		t.Fatalf("a path of %d bytes", len(path))
	}
	wantError(t, "Mkdir of one more name", f.Mkdir(path+"/n", 493), api.ErrName)
	wantError(t, "Write of one more byte", f.Write(path+"n", 420), api.ErrName)
	wantError(t, "Rmdir", f.Rmdir(path), api.OK)
	wantError(t, "Write", f.Write(path, 420, 'x'), api.OK)
	wantBytes(t, f, path, []byte{'x'})
	wantError(t, "Link", f.Link(path, "/x"), api.OK)
	found, _ := f.Walk("/")
	if len(found) != api.MaxDepth+2 || found[api.MaxDepth].Path != path {
		t.Errorf("Walk: %v", found)
	}
	wantSound(t, f)
}

// P8.3, P8.4: a directory that is renamed takes along what is in it, also past MaxDepth and MaxPath:
// no path leads there any more, but it is walked, and removed.
func TestDeeperThanPaths(t *testing.T) {
	f := made(t, 100, 64)
	p, i := f.Free()
	name := strings.Repeat("n", 20)
	twelve := strings.Repeat("/"+name, 12)
	for n := range 12 {
		wantError(t, "Mkdir", f.Mkdir("/a"+twelve[:n*21], 493), api.OK)
		wantError(t, "Mkdir", f.Mkdir("/b"+twelve[:n*21], 493), api.OK)
	}
	deep := "/a" + twelve[:11*21]
	wantError(t, "Write", f.Write("/b/f", 420, 'f'), api.OK)
	wantError(t, "Rename", f.Rename("/b", deep+"/b"), api.OK)
	wantError(t, "Stat", second(f.Stat(deep+"/b")), api.OK)
	wantError(t, "Stat", second(f.Stat(deep+"/b/"+name)), api.ErrName)
	found, e := f.Walk("/")
	if e != api.OK || len(found) != 26 || found[14].Path != deep+"/b/f" || found[25].Path != deep+"/b"+twelve[:11*21] {
		t.Errorf("Walk: %d paths, error %d", len(found), e)
	}
	wantSound(t, f)
	commit(t, f)
	wantError(t, "Remove", f.Remove("/a"), api.OK)
	if q, j := f.Free(); p != q || i != j {
		t.Errorf("%d pages and %d inodes are free, want %d and %d", q, j, p, i)
	}
	wantError(t, "Abort", f.Abort(), api.OK)
	wantError(t, "Rename", f.Rename(deep+"/b", "/b"), api.OK)
	wantBytes(t, f, "/b/f", []byte{'f'})
	wantSound(t, f)
}
