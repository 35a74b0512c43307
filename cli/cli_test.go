package cli

import (
	"bytes"
	"crypto/sha256"
	"encoding/hex"
	"slices"
	"strconv"
	"strings"
	"testing"

	"dunnage/api"
	"dunnage/disk"
	"dunnage/fsys"
	"dunnage/gc"
	"dunnage/tarfmt"
)

const leastSectors = 169 // a head, a log of 100, 3 pages and 64 of the inodes' table, and one for the root's names

func wantError(t *testing.T, what string, got, want api.Errno) {
	t.Helper()
	if got != want {
		t.Errorf("%s: error %d, want %d", what, got, want)
	}
}

func second[T any](_ T, e api.Errno) api.Errno {
	return e
}

// brief is a text as a failed test tells it.
func brief(s string) string {
	if len(s) > 200 {
		return strconv.Quote(s[:200]) + " and " + strconv.Itoa(len(s)-200) + " bytes more"
	}
	return strconv.Quote(s)
}

func newDisk(t *testing.T, sectors int) *disk.Disk {
	t.Helper()
	d, e := disk.New(sectors)
	wantError(t, "disk.New", e, api.OK)
	return d
}

func made(t *testing.T, sectors int) *Shell {
	t.Helper()
	s, e := Make(newDisk(t, sectors))
	if s == nil || e != api.OK {
		t.Fatalf("Make: error %d", e)
	}
	return s
}

func opened(t *testing.T, d *disk.Disk) *Shell {
	t.Helper()
	s, e := Open(d)
	if s == nil || e != api.OK {
		t.Fatalf("Open: error %d", e)
	}
	return s
}

func want(t *testing.T, s *Shell, line, answer string) {
	t.Helper()
	if got := s.Do(line); got != answer {
		t.Errorf("%s: %s, want %s", brief(line), brief(got), brief(answer))
	}
	wantError(t, brief(line)+": Check", s.Check(), api.OK)
}

// wantNo: a line has an error, and changes nothing.
func wantNo(t *testing.T, s *Shell, line string, e api.Errno) {
	t.Helper()
	was := s.Disk()
	want(t, s, line, "no "+strconv.Itoa(int(e)))
	if now := s.Disk(); now.Ops() != was.Ops() || !disk.Same(was, now) {
		t.Errorf("%s: something has changed", brief(line))
	}
	if dirty := s.Store().Blobs().FS().Inodes().Map().Cache().Dirty(); len(dirty) != 0 {
		t.Errorf("%s: something waits", brief(line))
	}
}

// digestOf is what the library says; no code of the program is asked.
func digestOf(b []byte) string {
	h := sha256.Sum256(b)
	return hex.EncodeToString(h[:])
}

func tarOf(t *testing.T, l ...api.Entry) []byte {
	t.Helper()
	b, e := tarfmt.Print(l...)
	wantError(t, "Print", e, api.OK)
	return b
}

// imageOf is a manifest's bytes, as chapter 11 says how they are.
func imageOf(os, arch string, layers ...string) []byte {
	b := append([]byte{0x44, 0x4d, 1, byte(len(os))}, os...)
	b = append(append(b, byte(len(arch))), arch...)
	b = append(b, byte(len(layers)))
	for _, l := range layers {
		h, _ := hex.DecodeString(l)
		b = append(b, h...)
	}
	return b
}

// told is what an answer tells behind its ok, which it must have.
func told(t *testing.T, s *Shell, line string) string {
	t.Helper()
	answer := s.Do(line)
	rest, ok := strings.CutPrefix(answer, "ok ")
	if !ok {
		t.Fatalf("%s: %s", brief(line), brief(answer))
	}
	return rest
}

// planted is a shell with a layer L and a manifest M of it, the tag t of that, and the pin p; L is held no more.
func planted(t *testing.T, sectors int) (s *Shell, l, m string) {
	t.Helper()
	s = made(t, sectors)
	l = told(t, s, "layer f:a:420:6869 d:b:493 f:b/c:256:- l:k:a h:b/h:a")
	m = told(t, s, "manifest os arm "+l)
	want(t, s, "tag t "+m, "ok")
	want(t, s, "pin p t", "ok")
	want(t, s, "release "+l, "ok")
	return s, l, m
}

// DOC.md, 'Examples of the whole'
func TestExamplesOfTheWhole(t *testing.T) {
	s := made(t, 1000)
	free := s.Do("free")
	l := told(t, s, "layer f:a:420:6869 d:b:493")
	m := told(t, s, "manifest os arm "+l)
	for _, x := range [][2]string{
		{"tag t " + m, "ok"}, {"pin p t", "ok"}, {"ls /p", "ok a b"}, {"cat /p/a", "ok 6869"}, {"count " + l, "ok 2 1"},
		{"release " + l, "ok"}, {"untag t", "ok"}, {"count " + l, "ok 1 0"}, {"unpin p", "ok"}, {"release " + m, "ok"}, {"blobs", "ok"}, {"free", free},
	} {
		want(t, s, x[0], x[1])
	}
}

// Chapter 16, examples
func TestExamples(t *testing.T) {
	s := made(t, 300)
	want(t, s, "put 616263", "ok ba7816bf8f01cfea414140de5dae2223b00361a396177a9cb410ff61f20015ad")
	l := tarOf(t, api.Entry{Name: "a", Kind: api.File, Mode: 104*4 + 4, Data: []byte{0x68}})
	want(t, s, "layer f:a:420:68", "ok "+digestOf(l))
	pages, inodes := s.Store().Blobs().FS().Free()
	want(t, s, "free", "ok "+strconv.Itoa(pages)+" "+strconv.Itoa(inodes))
}

// P16.1 (Make): its errors; what is made is committed, and the disk that was handed in stays as it is.
func TestMake(t *testing.T) {
	if s, e := Make(nil); s != nil || e != api.ErrNil {
		t.Errorf("nil: error %d", e)
	}
	for _, n := range []int{1, 100, 101, 102, leastSectors - 1} {
		if s, e := Make(newDisk(t, n)); s != nil || e != api.ErrRange {
			t.Errorf("%d sectors: error %d", n, e)
		}
	}
	for _, n := range []int{leastSectors, 300, 3000, api.MaxSectors} {
		d := newDisk(t, n)
		s, e := Make(d)
		if s == nil || e != api.OK {
			t.Fatalf("%d sectors: error %d", n, e)
		}
		if d.Ops() != 0 {
			t.Error("the disk that was handed in has changed")
		}
		want(t, s, "free", "ok "+strconv.Itoa(n-leastSectors)+" 508") // 0, the root, /blobs and /roots are taken
		want(t, s, "ls /", "ok")
		want(t, s, "blobs", "ok")
		left, _ := s.Disk().Crash()
		want(t, opened(t, left), "free", "ok "+strconv.Itoa(n-leastSectors)+" 508")
	}
	s := made(t, leastSectors)
	wantNo(t, s, "put 61", api.ErrFull)
}

// P16.1 (Make): over what was on the disk
func TestMakeAnew(t *testing.T) {
	s, _, _ := planted(t, 300)
	s, e := Make(s.Disk())
	wantError(t, "Make", e, api.OK)
	for _, x := range [][2]string{{"blobs", "ok"}, {"tags", "ok"}, {"pins", "ok"}, {"ls /", "ok"}, {"free", made(t, 300).Do("free")}} {
		want(t, s, x[0], x[1])
	}
}

// P16.1 (Open): its errors, of disks that nobody made; and a disk without a store, where it is committed
func TestOpen(t *testing.T) {
	if s, e := Open(nil); s != nil || e != api.ErrNil {
		t.Errorf("nil: error %d", e)
	}
	if s, e := Open(newDisk(t, 101)); s != nil || e != api.ErrRange {
		t.Errorf("101 sectors: error %d", e)
	}
	for _, n := range []int{102, leastSectors, 3000} {
		if s, e := Open(newDisk(t, n)); s != nil || e != api.ErrBroken {
			t.Errorf("%d sectors of noughts: error %d", n, e)
		}
	}
	noisy := newDisk(t, 300)
	for n := range 300 {
		noisy.Write(n, bytes.Repeat([]byte{byte(n), 77}, 256)...)
	}
	for what, d := range map[string]*disk.Disk{"noise": noisy, "another log": onDisk(t, 50, func(*fsys.FS) api.Errno { return api.OK })} {
		if s, e := Open(d); s != nil || e != api.ErrBroken {
			t.Errorf("%s: error %d", what, e)
		}
	}
	for what, plant := range map[string]func(f *fsys.FS) api.Errno{
		"/refs is none":    func(f *fsys.FS) api.Errno { return f.Write("/refs", 420, 'x') },
		"/roots is a file": func(f *fsys.FS) api.Errno { return f.Write("/roots", 420) },
		"/blobs is a file": func(f *fsys.FS) api.Errno { return f.Write("/blobs", 420) },
	} {
		if s, e := Open(onDisk(t, 100, plant)); s != nil || e != api.ErrBroken {
			t.Errorf("%s: error %d", what, e)
		}
	}
	d := onDisk(t, 100, func(f *fsys.FS) api.Errno { return f.Write("/mine", 420, 'x') })
	ops := d.Ops()
	s := opened(t, d)
	if d.Ops() != ops || s.Disk().Ops() == ops {
		t.Error("committed on a Fork of the disk")
	}
	want(t, s, "ls /", "ok")
	left, _ := s.Disk().Crash()
	f, _ := fsys.Mount(left, 100)
	if names, _ := f.List("/"); !slices.Equal(names, []string{"blobs", "mine", "roots"}) {
		t.Errorf("committed: %q", names)
	}
}

// onDisk is the disk of a committed file system of 300 sectors with such a log.
func onDisk(t *testing.T, log int, plant func(f *fsys.FS) api.Errno) *disk.Disk {
	t.Helper()
	f, e := fsys.Make(newDisk(t, 300), log, 64)
	wantError(t, "fsys.Make", e, api.OK)
	wantError(t, "planting", plant(f), api.OK)
	wantError(t, "Commit", f.Commit(), api.OK)
	return f.Disk()
}

// P16.1 (Open): without room for /roots
func TestOpenWithoutRoom(t *testing.T) {
	d := onDisk(t, 100, func(f *fsys.FS) api.Errno {
		for _, i := f.Free(); i > 1; i-- {
			wantError(t, "Inode", second(f.Inodes().Map().Inode()), api.OK)
		}
		return api.OK
	})
	if s, e := Open(d); s != nil || e != api.ErrFull {
		t.Errorf("error %d", e)
	}
}

// P1, P16.1, P16.2: a nil shell
func TestNil(t *testing.T) {
	var s *Shell
	for _, line := range []string{"", "tags", "no command", strings.Repeat("x", api.MaxLine+1)} {
		if got := s.Do(line); got != "no 1" {
			t.Errorf("%s: %s", brief(line), got)
		}
	}
	if s.Store() != nil || s.Disk() != nil {
		t.Error("nil has a store or a disk")
	}
	wantError(t, "Check", s.Check(), api.ErrNil)
}

// P16.2 (Store, Disk): itself; a Fork of its own
func TestStoreAndDisk(t *testing.T) {
	s, l, _ := planted(t, 400)
	if s.Store() == nil || s.Store() != s.Store() || !slices.Equal(s.Store().Tags(), []string{"t"}) || !slices.Equal(s.Store().Pins(), []string{"p"}) {
		t.Error("not its store")
	}
	h, e := s.Store().Put('x')
	wantError(t, "Put", e, api.OK)
	want(t, s, "count "+hex.EncodeToString(h[:]), "ok 1 1")
	d := s.Disk()
	for n := range d.Sectors() {
		d.Write(n, make([]byte, api.SectorBytes)...)
	}
	want(t, s, "count "+l, "ok 1 0")
	if disk.Same(d, s.Disk()) || s.Disk().Sectors() != 400 {
		t.Error("Disk is a Fork")
	}
}

// P16.2 (Check): gc.Audit's error; fsck.Check's
func TestCheck(t *testing.T) {
	for what, harm := range map[string]func(s *gc.Store){
		"a blob that nobody refers to": func(s *gc.Store) { s.Blobs().Put('x') },
		"an inode that has no name":    func(s *gc.Store) { s.Blobs().FS().Inodes().Make(api.File, 420) },
		"a page that nobody has":       func(s *gc.Store) { s.Blobs().FS().Inodes().Map().Page() },
	} {
		s, _, _ := planted(t, 400)
		want(t, s, "audit", "ok")
		harm(s.Store())
		wantError(t, what, s.Check(), api.ErrBroken)
		if got := s.Do("audit"); got != "no 9" {
			t.Errorf("%s: %s", what, got)
		}
		want(t, s, "audit", "ok") // what was harmed was not committed
	}
}

// P16.1: behind a command without an error all is committed, behind one with an error aborted; what is no command does neither.
func TestCommittedOrAborted(t *testing.T) {
	has := func(s *Shell) bool { return s.Store().Holds(sha256.Sum256([]byte("x"))) == 1 }
	for line, left := range map[string][2]bool{"tags": {true, true}, "blobs": {true, true}, "untag nobody": {false, false}, "ls nowhere": {false, false}, "no command": {true, false}} {
		s, _, _ := planted(t, 400)
		wantError(t, "Put", second(s.Store().Put('x')), api.OK)
		s.Do(line)
		if has(s) != left[0] || has(opened(t, s.Disk())) != left[1] {
			t.Errorf("%s: there %v, committed %v", line, has(s), has(opened(t, s.Disk())))
		}
	}
}
