package inode

import (
	"bytes"
	"math"
	"slices"
	"testing"

	"dunnage/alloc"
	"dunnage/api"
	"dunnage/bcache"
	"dunnage/disk"
	"dunnage/wal"
)

const dirt = 0xa5 // what lies on all pages before anybody writes there

func full(x int) []byte {
	return bytes.Repeat([]byte{byte(x)}, api.SectorBytes)
}

// text is so many bytes, none of them 0, no two runs of them alike for long.
func text(n, seed int) []byte {
	b := make([]byte, n)
	for i := range b {
		b[i] = byte(1 + (i*7+i/255+seed*31)%255)
	}
	return b
}

func wantError(t *testing.T, what string, got, want api.Errno) {
	t.Helper()
	if got != want {
		t.Errorf("%s: error %d, want %d", what, got, want)
	}
}

func second[T any](_ T, e api.Errno) api.Errno {
	return e
}

// stored is a store that was committed, on so many pages of dirt.
func stored(t *testing.T, pages, inodes int) *Store {
	t.Helper()
	image := [][]byte{}
	for range 1 + api.MaxGroup {
		image = append(image, full(0))
	}
	for range pages {
		image = append(image, full(dirt))
	}
	d, e := disk.Load(image...)
	wantError(t, "disk.Load", e, api.OK)
	m, e := alloc.Make(cached(t, d), inodes)
	wantError(t, "alloc.Make", e, api.OK)
	s := over(t, m)
	commit(t, s)
	return s
}

func cached(t *testing.T, d *disk.Disk) *bcache.Cache {
	t.Helper()
	l, e := wal.Open(d, api.MaxGroup)
	wantError(t, "wal.Open", e, api.OK)
	c, e := bcache.New(l, 8)
	wantError(t, "bcache.New", e, api.OK)
	return c
}

func over(t *testing.T, m *alloc.Map) *Store {
	t.Helper()
	s, e := New(m)
	if e != api.OK || s == nil {
		t.Fatalf("New: error %d", e)
	}
	return s
}

// again is the store that lies on a disk.
func again(t *testing.T, d *disk.Disk) *Store {
	t.Helper()
	m, e := alloc.Open(cached(t, d))
	wantError(t, "alloc.Open", e, api.OK)
	return over(t, m)
}

func cacheOf(s *Store) *bcache.Cache {
	return s.Map().Cache()
}

func commit(t *testing.T, s *Store) {
	t.Helper()
	wantError(t, "Commit", cacheOf(s).Commit(), api.OK)
}

func made(t *testing.T, s *Store, k api.Kind, mode int) int {
	t.Helper()
	i, e := s.Make(k, mode)
	if e != api.OK {
		t.Fatalf("Make(%d, %d): error %d", k, mode, e)
	}
	return i
}

// newFile is a new file of the mode 420 with these bytes, written piece by piece, each committed.
func newFile(t *testing.T, s *Store, b []byte) int {
	t.Helper()
	i := made(t, s, api.File, 420)
	commit(t, s)
	const piece = 40 * api.SectorBytes
	for at := 0; at < len(b); at += piece {
		wantError(t, "Write", s.Write(i, at, b[at:min(at+piece, len(b))]...), api.OK)
		commit(t, s)
	}
	return i
}

func got(t *testing.T, s *Store, i int) api.Inode {
	t.Helper()
	node, e := s.Get(i)
	wantError(t, "Get", e, api.OK)
	return node
}

func wantBytes(t *testing.T, what string, s *Store, i int, want []byte) {
	t.Helper()
	b, e := s.Read(i, 0, api.MaxFile)
	wantError(t, what, e, api.OK)
	if !bytes.Equal(b, want) {
		t.Errorf("%s: other bytes (%d), want %d", what, len(b), len(want))
	}
	if size := got(t, s, i).Size; size != len(want) {
		t.Errorf("%s: size %d, want %d", what, size, len(want))
	}
}

func wantPages(t *testing.T, what string, s *Store, i int, want ...int) {
	t.Helper()
	pages, e := s.Pages(i)
	wantError(t, what, e, api.OK)
	if !slices.Equal(pages, want) {
		t.Errorf("%s: pages %v, want %v", what, pages, want)
	}
}

// all are all pages as the cache tells them.
func all(s *Store) [][]byte {
	var pages [][]byte
	for n := range cacheOf(s).Log().Pages() {
		b, _ := cacheOf(s).Read(n)
		pages = append(pages, b)
	}
	return pages
}

// wantStill: nothing changes, and nothing that waits for a Commit is forgotten.
func wantStill(t *testing.T, what string, s *Store, call func()) {
	t.Helper()
	was, dirty := all(s), cacheOf(s).Dirty()
	call()
	if !slices.EqualFunc(was, all(s), bytes.Equal) || !slices.Equal(dirty, cacheOf(s).Dirty()) {
		t.Errorf("%s: something has changed", what)
	}
}

// upTo are the numbers from one on, ahead of another one.
func upTo(from, end int) []int {
	var list []int
	for n := from; n < end; n++ {
		list = append(list, n)
	}
	return list
}

// P6.1: an inode's numbers rise, and each is as it was made.
func TestMake(t *testing.T) {
	s := stored(t, 40, 16)
	want := 1
	for _, k := range []api.Kind{api.File, api.Dir, api.Link} {
		for _, mode := range []int{0, 420, 4095} {
			if i := made(t, s, k, mode); i != want {
				t.Errorf("Make: %d, want %d", i, want)
			}
			if node := got(t, s, want); node != (api.Inode{Kind: k, Mode: mode, Links: 1}) {
				t.Errorf("Get(%d): %v", want, node)
			}
			wantPages(t, "Make", s, want)
			want++
		}
	}
	if p, i := s.Map().Free(); p != 35 || i != 6 {
		t.Errorf("%d pages and %d inodes are free", p, i)
	}
	wantError(t, "Drop", s.Drop(4), api.OK)
	if i := made(t, s, api.Link, 1); i != 4 {
		t.Errorf("Make: %d, want 4", i)
	}
}

// P6.1
func TestMakeRange(t *testing.T) {
	s := stored(t, 40, 8)
	wantStill(t, "Make", s, func() {
		for _, k := range []api.Kind{api.NoKind, api.Hard, -1, 5, math.MaxInt, math.MinInt} {
			wantError(t, "Make of no kind", second(s.Make(k, 420)), api.ErrRange)
		}
		for _, mode := range []int{-1, 4096, math.MaxInt, math.MinInt} {
			i, e := s.Make(api.File, mode)
			if i != 0 || e != api.ErrRange {
				t.Errorf("Make of mode %d: %d, error %d", mode, i, e)
			}
		}
	})
}

// P6.1: the last free inode, and one more; and kinds and modes ahead of it.
func TestLastInode(t *testing.T) {
	s := stored(t, 40, 8)
	for range 7 {
		made(t, s, api.File, 1)
	}
	wantStill(t, "Make", s, func() {
		wantError(t, "Make", second(s.Make(api.NoKind, 1)), api.ErrRange)
		wantError(t, "Make", second(s.Make(api.File, 4096)), api.ErrRange)
	})
	commit(t, s)
	wantError(t, "Set", s.Set(3, 7, 7), api.OK)
	i, e := s.Make(api.File, 1)
	if i != 0 || e != api.ErrFull {
		t.Errorf("Make: %d, error %d", i, e)
	}
	if node := got(t, s, 3); node.Mode != 1 || len(cacheOf(s).Dirty()) != 0 {
		t.Errorf("what was done since the last Commit is not forgotten: %v", node)
	}
}

// P6.1: the errors that all calls of an inode have.
func TestGetErrors(t *testing.T) {
	s := stored(t, 40, 8)
	made(t, s, api.File, 1)
	made(t, s, api.File, 2)
	wantError(t, "Drop", s.Drop(1), api.OK)
	for i, want := range map[int]api.Errno{
		0: api.ErrRange, -1: api.ErrRange, 8: api.ErrRange, 9: api.ErrRange, 512: api.ErrRange, math.MinInt: api.ErrRange, math.MaxInt: api.ErrRange,
		1: api.ErrNone, 3: api.ErrNone, 7: api.ErrNone,
	} {
		wantStill(t, "no inode", s, func() {
			node, e := s.Get(i)
			if node != (api.Inode{}) || e != want {
				t.Errorf("Get(%d): %v, error %d", i, node, e)
			}
			wantError(t, "Set", s.Set(i, -1, -1), want)
			wantError(t, "Drop", s.Drop(i), want)
			wantError(t, "Read", second(s.Read(i, -1, -1)), want)
			wantError(t, "Write", s.Write(i, -1), want)
			wantError(t, "Write", s.Write(i, math.MaxInt, 1), want)
			wantError(t, "Resize", s.Resize(i, -1), want)
			wantError(t, "Resize", s.Resize(i, math.MaxInt), want)
			wantError(t, "Pages", second(s.Pages(i)), want)
		})
	}
}

// P6.1: which inodes are free the map knows.
func TestTakenOfTheMap(t *testing.T) {
	s := stored(t, 40, 8)
	i, e := s.Map().Inode()
	wantError(t, "alloc.Inode", e, api.OK)
	if node := got(t, s, i); node != (api.Inode{}) {
		t.Errorf("Get: %v", node)
	}
	made(t, s, api.File, 1)
	wantError(t, "GiveInode", s.Map().GiveInode(2), api.OK)
	wantError(t, "Get", second(s.Get(2)), api.ErrNone)
}

// P6.1
func TestSet(t *testing.T) {
	s := stored(t, 60, 8)
	want := text(6000, 1)
	i := newFile(t, s, want)
	was := got(t, s, i)
	for _, x := range [][2]int{{0, 0}, {4095, 65535}, {511, 256}, {256, 1}} {
		wantError(t, "Set", s.Set(i, x[0], x[1]), api.OK)
		node := was
		node.Mode, node.Links = x[0], x[1]
		if got(t, s, i) != node {
			t.Errorf("Get: %v, want %v", got(t, s, i), node)
		}
	}
	wantBytes(t, "behind Set", s, i, want)
	wantStill(t, "Set", s, func() {
		for _, x := range [][2]int{{-1, 1}, {4096, 1}, {1, -1}, {1, 65536}, {math.MinInt, 1}, {1, math.MaxInt}} {
			wantError(t, "Set", s.Set(i, x[0], x[1]), api.ErrRange)
		}
	})
}

// P6.1, P6.5: what is dropped gives all back, also of a file with an indirect page; others stay.
func TestDrop(t *testing.T) {
	for _, size := range []int{0, 1, 512, 513, 5120, 5121, 5633, api.MaxFile} {
		s := stored(t, 200, 8)
		before := newFile(t, s, text(700, 3))
		pages, inodes := s.Map().Free()
		i := newFile(t, s, text(size, 1))
		if p, n := s.Map().Free(); pages-p != Need(size) || inodes-n != 1 {
			t.Errorf("size %d takes %d pages and %d inodes", size, pages-p, inodes-n)
		}
		had, _ := s.Pages(i)
		wantError(t, "Drop", s.Drop(i), api.OK)
		if p, n := s.Map().Free(); p != pages || n != inodes {
			t.Errorf("size %d: %d pages and %d inodes are not given back", size, pages-p, inodes-n)
		}
		for _, n := range had {
			if s.Map().Used(n) {
				t.Errorf("page %d is taken", n)
			}
		}
		wantError(t, "Get", second(s.Get(i)), api.ErrNone)
		wantError(t, "Drop", s.Drop(i), api.ErrNone)
		wantBytes(t, "the other file", s, before, text(700, 3))
		commit(t, s)
		wantSound(t, s)
	}
}

// P6.1: a free inode's kind is NoKind, and 0 is all that is in its place.
func TestDropClears(t *testing.T) {
	s := stored(t, 40, 16)
	for range 9 {
		made(t, s, api.Link, 511)
	}
	wantError(t, "Write", s.Write(9, 0, 1, 2, 3), api.OK)
	wantError(t, "Drop", s.Drop(9), api.OK)
	if b, _ := cacheOf(s).Read(4); !bytes.Equal(b, append(place(api.Link, 511, 1, 0), make([]byte, 448)...)) {
		t.Errorf("inodes 8 and 9: % x", b[:128])
	}
}

// P6.3, and the example of chapter 6
func TestNeed(t *testing.T) {
	for size, want := range map[int]int{
		0: 0, 1: 1, 511: 1, 512: 1, 513: 2, 1024: 2, 1025: 3, 4609: 10, 5119: 10, 5120: 10, 5121: 12, 5632: 12, 5633: 13,
		api.MaxFile - 512: 138, api.MaxFile - 511: 139, api.MaxFile: 139,
		api.MaxFile + 1: 0, -1: 0, math.MaxInt: 0, math.MinInt: 0,
	} {
		if n := Need(size); n != want {
			t.Errorf("Need(%d): %d, want %d", size, n, want)
		}
	}
}

// P6.3: the pages of each size are as many as it needs, in the order in which they were taken.
func TestPages(t *testing.T) {
	s := stored(t, 40, 8)
	i := made(t, s, api.File, 420)
	for _, x := range []struct {
		size  int
		pages []int
	}{
		{1, upTo(4, 5)},
		{512, upTo(4, 5)},
		{513, upTo(4, 6)},
		{5120, upTo(4, 14)},
		{5121, append(upTo(4, 14), 15, 14)}, // the indirect page was taken first, and is told last
		{5632, append(upTo(4, 14), 15, 14)},
		{5633, append(upTo(4, 14), 15, 16, 14)},
		{5121, append(upTo(4, 14), 15, 14)},
		{5120, upTo(4, 14)},
		{600, upTo(4, 6)},
		{0, nil},
		{6145, append(upTo(4, 14), 15, 16, 17, 14)},
	} {
		wantError(t, "Resize", s.Resize(i, x.size), api.OK)
		wantPages(t, "Resize", s, i, x.pages...)
		wantSound(t, s)
	}
	node := got(t, s, i)
	if !slices.Equal(node.Pages[:], upTo(4, 15)) {
		t.Errorf("Get: %v", node.Pages)
	}
}

// Chapter 6, 'Words': pages are taken one by one, the first free ones, whatever of the others is free.
func TestPagesOutOfHoles(t *testing.T) {
	s := stored(t, 60, 8)
	for range 30 {
		s.Map().Page()
	}
	for _, n := range []int{30, 20, 10, 5, 6, 7, 8, 9, 21, 22, 33} {
		wantError(t, "GivePage", s.Map().GivePage(n), api.OK)
	}
	i := made(t, s, api.File, 420)
	wantError(t, "Write", s.Write(i, 6000, 1), api.OK)
	wantPages(t, "holes", s, i, 5, 6, 7, 8, 9, 10, 20, 21, 22, 30, 34, 35, 33)
	wantError(t, "Resize", s.Resize(i, 5000), api.OK)
	wantPages(t, "holes", s, i, 5, 6, 7, 8, 9, 10, 20, 21, 22, 30)
	if s.Map().Used(33) || s.Map().Used(34) || s.Map().Used(35) || !s.Map().Used(32) {
		t.Error("other pages are given back")
	}
}

// P6.6: two files that grow by turns.
func TestPagesOfTwo(t *testing.T) {
	s := stored(t, 60, 8)
	a, b := made(t, s, api.File, 1), made(t, s, api.Dir, 2)
	for k := range 12 {
		wantError(t, "Write", s.Write(a, 512*k, full(k+1)...), api.OK)
		wantError(t, "Write", s.Write(b, 512*k, full(k+101)...), api.OK)
	}
	wantPages(t, "one", s, a, 4, 6, 8, 10, 12, 14, 16, 18, 20, 22, 25, 28, 24)
	wantPages(t, "the other", s, b, 5, 7, 9, 11, 13, 15, 17, 19, 21, 23, 27, 29, 26)
	for k := range 12 {
		x, _ := s.Read(a, 512*k, 512)
		y, _ := s.Read(b, 512*k, 512)
		if !bytes.Equal(x, full(k+1)) || !bytes.Equal(y, full(k+101)) {
			t.Errorf("page %d of one of them is another one", k)
		}
	}
	wantSound(t, s)
}
