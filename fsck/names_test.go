package fsck

import (
	"slices"
	"strconv"
	"strings"
	"testing"

	"dunnage/api"
	"dunnage/dir"
	"dunnage/inode"
)

// Point 4: a directory's size is a multiple of EntryBytes; entries that are 0 everywhere are free.
func TestDirectorySize(t *testing.T) {
	const names = 3 // of /d
	for size := 1; size <= api.SectorBytes; size++ {
		s := planted(t)
		edit(t, s, folder, func(node *api.Inode) { node.Size = size })
		switch {
		case size%api.EntryBytes != 0:
			wantFault(t, "size "+strconv.Itoa(size), s, 4)
		case size < names*api.EntryBytes:
			wantFault(t, "names are cut off", s, 5)
		default:
			wantReport(t, "free entries behind the last name", s, plantedReport)
		}
	}
}

// Point 4: free entries ahead of a name, between names, and in other pages.
func TestFreeEntries(t *testing.T) {
	f := made(t, 60, 64)
	for n := range 30 {
		wantError(t, "Mkdir", f.Mkdir("/"+strconv.Itoa(n), 493), api.OK)
	}
	for n := range 30 {
		if n != 25 {
			wantError(t, "Rmdir", f.Rmdir("/"+strconv.Itoa(n)), api.OK)
		}
	}
	wantReport(t, "one name of 32 entries", f.Inodes(), Report{Dirs: 2, Pages: 4})
}

// Point 4: an entry of inode 0 is 0 everywhere.
func TestFreeEntryIsNoughts(t *testing.T) {
	s := planted(t)
	edit(t, s, folder, func(node *api.Inode) { node.Size = api.SectorBytes })
	for _, k := range []int{3, 7} { // behind its three names
		page, at := place(t, s, folder, k)
		for octet := 4; octet < api.EntryBytes; octet++ {
			for _, x := range []byte{1, 'a', 255} {
				poke(t, s, page, at+octet, x)
				wantFault(t, "byte "+strconv.Itoa(octet)+" of a free entry", s, 4)
			}
			poke(t, s, page, at+octet, 0)
		}
	}
	wantReport(t, "noughts again", s, plantedReport)
}

// Point 4: the inode of an entry is taken, and neither 0 nor 1.
func TestInodeOfAnEntry(t *testing.T) {
	for _, i := range []int{0, 1, free, plantedInodes - 1, plantedInodes, api.MaxInodes - 1, api.MaxInodes, api.MaxSectors, 1 << 16, 1 << 24, 1<<32 - 1} {
		s := planted(t)
		enter(t, s, folder, 3, i, 1, "x")
		edit(t, s, folder, func(node *api.Inode) { node.Size = 4 * api.EntryBytes })
		wantFault(t, "one more entry, of inode "+strconv.Itoa(i), s, 4)
		s = planted(t)
		enter(t, s, folder, 1, i, 1, "g")
		wantFault(t, "another inode, "+strconv.Itoa(i), s, 4)
	}
}

// Point 4: names that are right, and others; /d/h is renamed by hand.
func TestNameOfAnEntry(t *testing.T) {
	const k = 2
	longest := strings.Repeat("n", api.MaxName)
	for _, name := range []string{"h", "x", "-", "...", ".h", "h.", "..h", " ", "\x01", "\xff\xfe", "\\", longest} {
		s := planted(t)
		enter(t, s, folder, k, empty, len(name), name)
		wantReport(t, strconv.Quote(name), s, plantedReport)
		if i, _ := dir.Find(s, folder, name); i != empty {
			t.Errorf("%q stands for %d", name, i)
		}
	}
	for _, name := range []string{"", ".", "..", "/", "\x00", "h/", "/h", "a/b", "h\x00", "\x00h", "a\x00b", longest[1:] + "/", longest[1:] + "\x00"} {
		s := planted(t)
		enter(t, s, folder, k, empty, len(name), name)
		wantFault(t, strconv.Quote(name), s, 4)
	}
	for _, length := range []int{60, 61, 64, 128, 250, 251, 255} {
		s := planted(t)
		enter(t, s, folder, k, empty, length, longest)
		wantFault(t, "the length "+strconv.Itoa(length), s, 4)
	}
}

// Point 4: nothing but 0 behind a name, at each place.
func TestBytesBehindAName(t *testing.T) {
	for length := 1; length <= api.MaxName; length++ {
		s := planted(t)
		name := strings.Repeat("n", length)
		enter(t, s, folder, 2, empty, length, name)
		wantReport(t, name, s, plantedReport)
		page, at := place(t, s, folder, 2)
		for octet := 5 + length; octet < api.EntryBytes; octet++ {
			poke(t, s, page, at+octet, 'n')
			wantFault(t, "byte "+strconv.Itoa(octet), s, 4)
			poke(t, s, page, at+octet, 0)
		}
	}
}

// Point 4: no name stands twice in one directory; in two it may.
func TestNameTwice(t *testing.T) {
	for _, x := range []struct{ k, i int }{{0, hollow}, {1, twin}, {2, empty}} {
		for other, name := range []string{"e", "g", "h"} {
			s := planted(t)
			enter(t, s, folder, x.k, x.i, 1, name)
			if other == x.k {
				wantReport(t, "as it was", s, plantedReport)
				continue
			}
			wantFault(t, "a name for two inodes", s, 4)
		}
	}
	s := planted(t)
	enter(t, s, folder, 3, twin, 1, "g") // all else is right: it has as many links as names
	edit(t, s, folder, func(node *api.Inode) { node.Size = 4 * api.EntryBytes })
	edit(t, s, twin, func(node *api.Inode) { node.Links = 3 })
	wantFault(t, "a name for one inode", s, 4)
	enter(t, s, folder, 3, twin, 1, "f") // it stands in the root, too
	wantReport(t, "a name in two directories", s, plantedReport)
}

// Point 4: a name that stands twice, in two pages of a directory.
func TestNameTwiceFarApart(t *testing.T) {
	f := made(t, 60, 64)
	for n := range 30 {
		wantError(t, "Mkdir", f.Mkdir("/"+strconv.Itoa(n), 493), api.OK)
	}
	s := f.Inodes()
	wantReport(t, "30 names", s, Report{Dirs: 31, Pages: 4})
	i, e := dir.Find(s, root, "29")
	wantError(t, "Find", e, api.OK)
	enter(t, s, root, 29, i, 1, "0")
	wantFault(t, "a name in two pages", s, 4)
}

// Point 4: a directory that has bytes has a name.
func TestBytesAndNoName(t *testing.T) {
	for _, size := range []int{api.EntryBytes, 2 * api.EntryBytes, api.SectorBytes} {
		s := planted(t)
		flipPage(t, s, lastPage)
		edit(t, s, hollow, func(node *api.Inode) { node.Size, node.Pages[0] = size, lastPage })
		wantFault(t, "no name", s, 4)
	}
	s := made(t, 40, 8).Inodes()
	wantError(t, "Resize", s.Resize(root, api.EntryBytes), api.OK)
	wantFault(t, "a root without names", s, 4)
}

// Point 4: a link has 1 to MaxPath bytes.
func TestLengthOfALink(t *testing.T) {
	for _, size := range []int{1, 2, api.MaxPath - 1, api.MaxPath, api.MaxPath + 1, 300, 512, 513, 6000, 0} {
		s := planted(t)
		wantError(t, "Resize", s.Resize(link, size), api.OK)
		if size >= 1 && size <= api.MaxPath {
			wantReport(t, "a link", s, plantedReport)
		} else {
			wantFault(t, "a link of "+strconv.Itoa(size)+" bytes", s, 4)
		}
	}
}

// Point 5: links, of the root, of directories, of others.
func TestLinks(t *testing.T) {
	right := []int{root: 1, folder: 1, hollow: 1, long: 1, twin: 2, link: 1, empty: 1, ten: 1}
	for i := root; i < free; i++ {
		for _, links := range []int{0, 1, 2, 3, 255, 256, 257, 258, 65535} {
			s := planted(t)
			edit(t, s, i, func(node *api.Inode) { node.Links = links })
			if links == right[i] {
				wantReport(t, "as it was", s, plantedReport)
			} else {
				wantFault(t, strconv.Itoa(links)+" links of inode "+strconv.Itoa(i), s, 5)
			}
		}
	}
}

// Point 5: a taken inode that nobody reaches, whatever links it has.
func TestUnreached(t *testing.T) {
	for _, k := range []api.Kind{api.File, api.Dir} {
		for _, links := range []int{0, 1, 2} {
			for i := free; i < plantedInodes; i++ {
				s := planted(t)
				edit(t, s, i, func(node *api.Inode) { node.Kind, node.Links = k, links })
				wantFault(t, "nobody reaches it", s, 5)
			}
		}
	}
	for _, x := range []struct {
		directory int
		name      string
	}{{root, "d"}, {root, "f"}, {root, "g"}, {root, "l"}, {root, "z"}, {folder, "e"}, {folder, "g"}, {folder, "h"}} {
		s := planted(t)
		_, e := dir.Drop(s, x.directory, x.name)
		wantError(t, "Drop", e, api.OK)
		wantFault(t, "a name is gone, and its inode is not", s, 5)
	}
}

// add lets a name stand for an inode, whatever inode.
func add(t *testing.T, s *inode.Store, directory int, name string, i int) {
	t.Helper()
	wantError(t, "Add", dir.Add(s, directory, name, i), api.OK)
}

// Point 5: a directory has one name and one link; others have as many names as links.
func TestNamesOfAnInode(t *testing.T) {
	for _, in := range []int{root, folder, hollow} {
		for _, i := range []int{folder, hollow} {
			for _, links := range []int{1, 2} {
				s := planted(t)
				add(t, s, in, "more", i) // also of a directory that is below itself then
				edit(t, s, i, func(node *api.Inode) { node.Links = links })
				wantFault(t, "a directory with two names", s, 5)
			}
		}
		for _, i := range []int{long, twin, link, empty} {
			s := planted(t)
			before, _ := s.Pages(in)
			add(t, s, in, "more", i)
			after, _ := s.Pages(in)
			wantFault(t, "one name more than links", s, 5)
			edit(t, s, i, func(node *api.Inode) { node.Links++ })
			want := plantedReport
			want.Pages += len(after) - len(before)
			wantReport(t, "as many names as links", s, want)
		}
	}
}

// Point 5: directories that are below themselves: each has one name and one link, and the root does not lead there.
func TestRings(t *testing.T) {
	ring := func(t *testing.T, inodes ...int) *inode.Store {
		s := planted(t)
		for at, i := range inodes {
			edit(t, s, i, func(node *api.Inode) { node.Kind, node.Links = api.Dir, 1 })
			add(t, s, i, "next", inodes[(at+1)%len(inodes)])
		}
		return s
	}
	wantFault(t, "a directory in itself", ring(t, free), 5)
	wantFault(t, "two in each other", ring(t, free, free+1), 5)
	wantFault(t, "seven", ring(t, slices.Collect(upTo(free, plantedInodes))...), 5)
	s := planted(t)
	_, e := dir.Drop(s, root, "d")
	wantError(t, "Drop", e, api.OK)
	add(t, s, hollow, "d", folder)
	wantFault(t, "moved into what is below it", s, 5)
}

func upTo(from, end int) func(yield func(int) bool) {
	return func(yield func(int) bool) {
		for i := from; i < end && yield(i); i++ {
		}
	}
}
