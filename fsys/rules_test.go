package fsys

import (
	"bytes"
	"slices"
	"testing"

	"dunnage/api"
	"dunnage/dir"
)

// P1
func TestNil(t *testing.T) {
	var f *FS
	for _, path := range append(noPaths(), taken()...) {
		for _, x := range append(asking(), making()...) {
			wantError(t, x.what, x.do(f, path), api.ErrNil)
		}
		wantError(t, "Mkdir", f.Mkdir(path, -1), api.ErrNil)
		wantError(t, "Write", f.Write(path, -1), api.ErrNil)
		wantError(t, "Write", f.Write(path, 420, make([]byte, api.MaxFile+1)...), api.ErrNil)
		wantError(t, "Symlink", f.Symlink(path, ""), api.ErrNil)
		b, e := f.Read(path)
		target, e2 := f.Target(path)
		if len(b) != 0 || target != "" || e != api.ErrNil || e2 != api.ErrNil {
			t.Errorf("Read: %d bytes, error %d; Target: %q, error %d", len(b), e, target, e2)
		}
		s, e := f.Stat(path)
		names, _ := f.List(path)
		found, _ := f.Walk(path)
		if s != (api.Stat{}) || e != api.ErrNil || len(names) != 0 || len(found) != 0 {
			t.Errorf("Stat: %v, error %d; List: %q; Walk: %v", s, e, names, found)
		}
	}
	wantError(t, "Commit", f.Commit(), api.ErrNil)
	wantError(t, "Abort", f.Abort(), api.ErrNil)
	if p, i := f.Free(); p != 0 || i != 0 || f.Inodes() != nil || f.Disk() != nil {
		t.Error("nil has something")
	}
}

// P3: what is handed in stays as it is, spare room too, and is not kept.
func TestHandedInStays(t *testing.T) {
	f := made(t, 60, 16)
	room := text(3000, 1)
	was := bytes.Clone(room)
	wantError(t, "Write", f.Write("/f", 420, room[:700]...), api.OK)
	wantError(t, "Write", f.Write("/g", 420, room[200:1700]...), api.OK)
	wantError(t, "Write anew", f.Write("/f", 420, room[5:10]...), api.OK)
	if !bytes.Equal(room, was) {
		t.Error("what was handed in has changed")
	}
	clear(room)
	wantBytes(t, f, "/f", was[5:10])
	wantBytes(t, f, "/g", was[200:1700])
}

// P3: what is answered is the caller's.
func TestAnsweredIsTheCallers(t *testing.T) {
	f := planted(t)
	was := told(t, f)
	for range 2 {
		b, _ := f.Read("/f")
		clear(b[:cap(b)])
		names, _ := f.List("/d")
		clear(names[:cap(names)])
		found, _ := f.Walk("/")
		clear(found[:cap(found)])
		if !slices.Equal(told(t, f), was) {
			t.Error("a change of what was answered changes what is kept")
		}
		wantError(t, "Write", f.Write("/f", 420, text(6000, 1)...), api.OK) // once more, with dirty pages
	}
}

// P6: two file systems do not know of each other, and a file system keeps nothing beside its inodes.
func TestNothingElseIsKept(t *testing.T) {
	f, g := planted(t), made(t, 240, 32)
	wantError(t, "Write", g.Write("/g", 420, 'g'), api.OK)
	wantGone(t, f, "/g")
	wantGone(t, g, "/f")
	i, e := f.Inodes().Make(api.File, 7)
	wantError(t, "inode.Make", e, api.OK)
	wantError(t, "inode.Write", f.Inodes().Write(i, 0, 'i'), api.OK)
	wantError(t, "dir.Add", dir.Add(f.Inodes(), root, "i", i), api.OK)
	wantBytes(t, f, "/i", []byte{'i'})
	wantStat(t, f, "/i", api.File, 7, 1, 1)
	wantError(t, "Unlink", f.Unlink("/i"), api.OK)
	wantSound(t, f)
}

// P1: whoever has the inodes can put a directory into itself, or let a name stand for nothing: each call ends.
func TestRingsEnd(t *testing.T) {
	for _, x := range []struct {
		in, i int
	}{{1, 1}, {2, 1}, {2, 2}, {3, 2}, {2, 300}, {2, 31}} {
		for n, call := range append(asking(), making()...) {
			f := planted(t)
			wantError(t, "dir.Add", dir.Add(f.Inodes(), x.in, "ring", x.i), api.OK)
			for _, path := range []string{"/ring", "/d/ring", "/d", "/d/e/ring", "/d/e", "/d/ring/ring"} {
				call.do(f, path)
			}
			if n == 0 && x.i < 3 {
				found, _ := f.Walk("/")
				if len(found) != 11 {
					t.Errorf("Walk: %v", found)
				}
			}
		}
	}
}
