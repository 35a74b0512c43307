package inode

import (
	"slices"
	"testing"

	"dunnage/api"
)

// four are the four bytes of a number, the highest first.
func four(x int) []byte {
	return []byte{byte(x >> 24), byte(x >> 16), byte(x >> 8), byte(x)}
}

// place are an inode's 64 bytes, as chapter 9 lays them.
func place(k api.Kind, mode, links, size int, pages ...int) []byte {
	b := append([]byte{byte(k), byte(mode >> 8), byte(mode), byte(links >> 8), byte(links)}, four(size)...)
	for _, n := range pages {
		b = append(b, four(n)...)
	}
	return append(b, make([]byte, 64-len(b))...)
}

func wantPage(t *testing.T, s *Store, n int, pieces ...[]byte) {
	t.Helper()
	want := slices.Concat(pieces...)
	want = append(want, make([]byte, api.SectorBytes-len(want))...)
	b, _ := cacheOf(s).Read(n)
	for at := range b {
		if b[at] != want[at] {
			t.Errorf("page %d has %x at %d, want %x", n, b[at], at, want[at])
			return
		}
	}
}

// Chapter 9's bytes of an inode and of an indirect page.
func TestLayout(t *testing.T) {
	s := stored(t, 400, 16)
	for range 250 {
		wantError(t, "Page", second(s.Map().Page()), api.OK) // so that numbers of pages have two bytes
		commit(t, s)
	}
	for range 8 {
		made(t, s, api.Dir, 0o755)
	}
	made(t, s, api.Link, 4095)
	i := made(t, s, api.File, 0o1234)
	wantError(t, "Set", s.Set(i, 0o1234, 0xabcd), api.OK)
	wantError(t, "Write", s.Write(i, 6143, 1), api.OK)
	root := place(api.Dir, 493, 1, 0)
	wantPage(t, s, 3, make([]byte, 64), root, root, root, root, root, root, root)
	wantPage(t, s, 4, root, place(api.Link, 4095, 1, 0), place(api.File, 668, 0xabcd, 6144, upTo(255, 266)...))
	wantPage(t, s, 265, four(266), four(267))
	wantError(t, "Resize", s.Resize(i, 5121), api.OK)
	wantPage(t, s, 4, root, place(api.Link, 4095, 1, 0), place(api.File, 668, 0xabcd, 5121, upTo(255, 266)...))
	wantPage(t, s, 265, four(266))
	wantError(t, "Resize", s.Resize(i, 1024), api.OK)
	wantPage(t, s, 4, root, place(api.Link, 4095, 1, 0), place(api.File, 668, 0xabcd, 1024, 255, 256))
}

// The indirect page of the greatest file has no byte to spare.
func TestLayoutOfTheGreatestFile(t *testing.T) {
	s := stored(t, 200, 8)
	i := newFile(t, s, text(api.MaxFile, 1))
	var names []byte
	for n := 15; n < 143; n++ {
		names = append(names, four(n)...)
	}
	wantPage(t, s, 14, names)
	wantPages(t, "the greatest file", s, i, append(append(upTo(4, 14), upTo(15, 143)...), 14)...)
	wantBytes(t, "the greatest file", s, i, text(api.MaxFile, 1))
}

// wantSound holds the pages to chapter 9's rules of inodes and pages (1 to 3, and nothing of names), by their bytes alone.
func wantSound(t *testing.T, s *Store) {
	t.Helper()
	m := s.Map()
	named := map[int]int{}
	for i := 1; i < m.Inodes(); i++ {
		if m.UsedInode(i) {
			for _, n := range namedBy(t, s, i) {
				named[n]++
			}
		}
	}
	pages, _ := m.Free()
	for n := m.First(); n < cacheOf(s).Log().Pages(); n++ {
		if named[n] > 1 || m.Used(n) != (named[n] == 1) {
			t.Errorf("page %d is named %d times, and taken: %v", n, named[n], m.Used(n))
		}
		pages += named[n]
		delete(named, n)
	}
	if len(named) != 0 {
		t.Errorf("pages are named that files may not have: %v", named)
	}
	if end := cacheOf(s).Log().Pages(); pages != end-m.First() {
		t.Errorf("named and free pages are %d, want %d", pages, end-m.First())
	}
}

// namedBy are the pages that an inode's bytes name; each must be where its size asks for it, and none elsewhere.
func namedBy(t *testing.T, s *Store, i int) []int {
	t.Helper()
	table, _ := cacheOf(s).Read(3 + i/8)
	b := table[64*(i%8):][:64]
	size := number(b[5:9])
	if b[0] < 1 || b[0] > 3 || number(b[1:3]) > 4095 || size > api.MaxFile || number(b[53:]) != 0 {
		t.Errorf("inode %d is % x", i, b)
	}
	need := (size + 511) / 512
	var names []int
	for k := range 10 {
		names = append(names, number(b[9+4*k:][:4]))
	}
	indirect := number(b[49:53])
	if (indirect != 0) != (need > 10) {
		t.Errorf("inode %d of size %d has the indirect page %d", i, size, indirect)
	}
	if indirect != 0 {
		page, _ := cacheOf(s).Read(indirect)
		for k := range 128 {
			names = append(names, number(page[4*k:][:4]))
		}
	}
	if slices.Contains(names[:need], 0) || slices.ContainsFunc(names[need:], func(n int) bool { return n != 0 }) {
		t.Errorf("inode %d of size %d names %v", i, size, names)
	}
	if names = names[:need]; indirect != 0 {
		names = append(names, indirect)
	}
	wantPages(t, "the bytes of an inode", s, i, names...)
	if len(names) != Need(size) {
		t.Errorf("size %d needs %d pages, want %d", size, Need(size), len(names))
	}
	return names
}

func number(b []byte) int {
	x := 0
	for _, o := range b {
		x = 256*x + int(o)
	}
	return x
}
