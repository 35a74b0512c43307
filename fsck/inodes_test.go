package fsck

import (
	"strconv"
	"testing"

	"dunnage/api"
	"dunnage/inode"
)

// Point 1: inode 1 is taken, and a directory.
func TestRoot(t *testing.T) {
	s := planted(t)
	flipInode(t, s, root)
	wantFault(t, "not taken", s, 1)
	for _, k := range []api.Kind{api.NoKind, api.File, api.Link, api.Hard, 255} {
		s := planted(t)
		edit(t, s, root, func(node *api.Inode) { node.Kind = k })
		wantFault(t, "a root of the kind "+strconv.Itoa(int(k)), s, 1)
	}
	bare := made(t, 40, 8).Inodes()
	edit(t, bare, root, func(node *api.Inode) { node.Kind = api.File }) // all else is right
	wantFault(t, "a new file system whose root is a file", bare, 1)
	flipInode(t, bare, root)
	wantFault(t, "no inode at all", bare, 1)
}

// Point 1: the kind, the mode and the size of each taken inode.
func TestForm(t *testing.T) {
	for _, i := range []int{folder, hollow, long, twin, link, empty, ten} {
		for _, k := range []api.Kind{api.NoKind, api.Hard, 5, 128, 255} {
			s := planted(t)
			edit(t, s, i, func(node *api.Inode) { node.Kind = k })
			wantFault(t, "a kind", s, 1)
		}
	}
	for i := root; i < free; i++ {
		for _, mode := range []int{4096, 4097, 8191, 32768, 65535} {
			s := planted(t)
			edit(t, s, i, func(node *api.Inode) { node.Mode = mode })
			wantFault(t, "a mode", s, 1)
		}
		for _, size := range []int{api.MaxFile + 1, api.MaxFile + api.EntryBytes, 1 << 17, 1 << 31, 1<<32 - 64, 1<<32 - 1} {
			s := planted(t)
			edit(t, s, i, func(node *api.Inode) { node.Size = size })
			wantFault(t, "a size", s, 1)
		}
	}
	for _, i := range []int{free, plantedInodes - 1} {
		s := planted(t)
		flipInode(t, s, i)
		wantFault(t, "a taken inode of no kind", s, 1)
	}
}

// Point 2: a page is missing that the size needs.
func TestPageMissing(t *testing.T) {
	for k := range api.Direct + 1 {
		wantFaults(t, wrong{"of /f", 2, func(t *testing.T, s *inode.Store) {
			edit(t, s, long, func(node *api.Inode) {
				flipPage(t, s, node.Pages[k]) // it is given back, so that nothing else is wrong
				node.Pages[k] = 0
			})
		}})
	}
	for k := range api.Direct {
		wantFaults(t, wrong{"of /z", 2, func(t *testing.T, s *inode.Store) {
			edit(t, s, ten, func(node *api.Inode) {
				flipPage(t, s, node.Pages[k])
				node.Pages[k] = 0
			})
		}})
	}
	for k := range 2 {
		wantFaults(t, wrong{"behind the indirect one", 2, func(t *testing.T, s *inode.Store) {
			flipPage(t, s, pointer(t, s, long, k, 0))
		}})
	}
	wantFaults(t,
		wrong{"a first byte without a page", 2, func(t *testing.T, s *inode.Store) {
			edit(t, s, empty, func(node *api.Inode) { node.Size = 1 })
		}},
		wrong{"a first entry without a page", 2, func(t *testing.T, s *inode.Store) {
			edit(t, s, hollow, func(node *api.Inode) { node.Size = api.EntryBytes })
		}},
		wrong{"an indirect page that names nothing", 2, func(t *testing.T, s *inode.Store) {
			flipPage(t, s, lastPage)
			edit(t, s, ten, func(node *api.Inode) { node.Size, node.Pages[api.Direct] = 5121, lastPage })
		}},
		wrong{"one page behind Direct, and no indirect one", 2, func(t *testing.T, s *inode.Store) {
			edit(t, s, ten, func(node *api.Inode) { node.Size = 5121 })
		}},
	)
}

// Point 2: just the pages that the size needs, at each size's edge.
func TestPagesOfASize(t *testing.T) {
	for _, x := range []struct {
		i, size int
		right   bool
	}{
		{long, 5120, false}, {long, 5121, false}, {long, 5632, false}, {long, 5633, true}, {long, 6144, true}, {long, 6145, false}, {long, 0, false},
		{twin, 0, false}, {twin, 1, false}, {twin, 512, false}, {twin, 513, true}, {twin, 1024, true}, {twin, 1025, false},
		{ten, 4608, false}, {ten, 4609, true}, {ten, 5119, true}, {ten, 5121, false}, {empty, 1, false}, {long, api.MaxFile, false},
	} {
		s := planted(t)
		edit(t, s, x.i, func(node *api.Inode) { node.Size = x.size })
		if x.right {
			wantReport(t, "size "+strconv.Itoa(x.size), s, plantedReport)
		} else {
			wantFault(t, "size "+strconv.Itoa(x.size), s, 2)
		}
	}
}

// Point 2: one page more than the size needs, at each place; a page that is taken, and that nobody else names.
func TestPageTooMany(t *testing.T) {
	for _, x := range []struct{ i, have int }{{empty, 0}, {hollow, 0}, {link, 1}, {folder, 1}, {root, 1}, {twin, 2}, {ten, 10}} {
		for k := x.have; k <= api.Direct; k++ {
			for _, n := range []int{lastPage, 1, 1 << 24, 1<<32 - 1} {
				s := planted(t)
				if n == lastPage {
					flipPage(t, s, n)
				}
				edit(t, s, x.i, func(node *api.Inode) { node.Pages[k] = n })
				wantFault(t, "one more", s, 2)
			}
		}
	}
	for k := 2; k < api.Pointers; k++ {
		for _, n := range []int{lastPage, 1, 1 << 24, 1<<32 - 1} {
			s := planted(t)
			if n == lastPage {
				flipPage(t, s, n)
			}
			pointer(t, s, long, k, n)
			wantFault(t, "one more in the indirect page", s, 2)
		}
	}
}

// put lets an inode name another page at one of its places, and gives the one back that it named;
// places behind Direct are those of the indirect page.
func put(t *testing.T, s *inode.Store, i, k, n int) {
	t.Helper()
	var old int
	if k > api.Direct {
		old = pointer(t, s, i, k-api.Direct-1, n)
	} else {
		edit(t, s, i, func(node *api.Inode) { old, node.Pages[k] = node.Pages[k], n })
	}
	flipPage(t, s, old)
}

// Point 2: pages that an inode may not have, at each of its places.
func TestPageThatMayNotBe(t *testing.T) {
	far := []int{lastPage, plantedPages - 2, plantedPages, plantedPages + 1, 511, 512, api.MaxSectors - 1, api.MaxSectors, 1 << 24, 1 << 31, 1<<32 - 1}
	for k := range api.Direct + 3 {
		for n := range plantedFirst {
			s := planted(t)
			put(t, s, long, k, n)
			wantFault(t, "page "+strconv.Itoa(n), s, 2)
		}
		for _, n := range far {
			s := planted(t)
			put(t, s, long, k, n)
			wantFault(t, "page "+strconv.Itoa(n), s, 2)
		}
	}
	for i := root; i < free; i++ {
		pages, _ := planted(t).Pages(i)
		for _, n := range pages {
			s := planted(t)
			flipPage(t, s, n)
			wantFault(t, "a page that is named and not taken", s, 2)
		}
	}
}

// Point 2: the first page and the last one may be named as any other; of the document's 'below the last page' see P9.2.
func TestLastPage(t *testing.T) {
	for k := range api.Direct + 3 {
		s := planted(t)
		if k != api.Direct { // the indirect page must bring its numbers along
			put(t, s, long, k, lastPage)
			flipPage(t, s, lastPage)
			wantReport(t, "the last page", s, plantedReport)
		}
	}
	s := planted(t)
	node, _ := s.Get(long)
	b, _ := cacheOf(s).Read(node.Pages[api.Direct])
	poke(t, s, lastPage, 0, b...)
	put(t, s, long, api.Direct, lastPage)
	flipPage(t, s, lastPage)
	wantReport(t, "the last page is the indirect one", s, plantedReport)
	if pages, _ := planted(t).Pages(root); pages[0] != plantedFirst {
		t.Errorf("the root has page %d, want First", pages[0])
	}
}

// Point 2: no page is named twice, by one inode at any two places, or by two.
func TestPageTwice(t *testing.T) {
	pages := make([][]int, free)
	for i := range pages {
		pages[i], _ = planted(t).Pages(i)
	}
	own := pages[long] // the indirect one last
	for k := range api.Direct + 3 {
		for _, n := range own {
			s := planted(t)
			put(t, s, long, k, n)
			wantFault(t, "one inode", s, 2)
		}
		for i := range pages {
			for _, n := range pages[i] {
				if i == long {
					continue
				}
				s := planted(t)
				put(t, s, long, k, n)
				wantFault(t, "two inodes", s, 2)
			}
		}
	}
	s := planted(t)
	put(t, s, twin, 0, pages[ten][9])
	wantFault(t, "a later inode has it, too", s, 2)
	s = planted(t)
	put(t, s, ten, 9, pages[twin][0])
	wantFault(t, "an earlier inode has it, too", s, 2)
}

// Point 3: each taken page is named.
func TestPageLost(t *testing.T) {
	for n := plantedFirst; n < plantedPages; n++ {
		s := planted(t)
		if s.Map().Used(n) {
			continue
		}
		flipPage(t, s, n)
		wantFault(t, "a taken page that nobody names", s, 3)
	}
	bare := made(t, 5, 8).Inodes()
	flipPage(t, bare, 4)
	wantFault(t, "the only page", bare, 3)
	great := made(t, api.MaxSectors-1-api.MaxGroup, 8).Inodes()
	flipPage(t, great, api.MaxSectors-2-api.MaxGroup)
	wantFault(t, "the last page of the greatest disk", great, 3)
}

// Point 3: of the pages ahead of First, and of bits behind the last page, it does not speak.
func TestBitsOfNoPage(t *testing.T) {
	s := planted(t)
	for n := range plantedFirst {
		flipPage(t, s, n)
	}
	for n := plantedPages; n < api.MaxSectors; n++ {
		flipPage(t, s, n)
	}
	flipInode(t, s, 0)
	for i := plantedInodes; i < api.MaxSectors; i++ {
		flipInode(t, s, i)
	}
	wantReport(t, "bits of no page and no inode", s, plantedReport)
}

// Points 1 and 2: as long as a file may be.
func TestLongestFile(t *testing.T) {
	f := made(t, 200, 16)
	wantError(t, "Write", f.Write("/f", 420), api.OK)
	s := f.Inodes()
	for at := 0; at < api.MaxFile; at += 100 * api.EntryBytes {
		n := min(100*api.EntryBytes, api.MaxFile-at)
		wantError(t, "Write", s.Write(2, at, text(n, 1)...), api.OK)
		wantError(t, "Commit", f.Commit(), api.OK)
	}
	wantReport(t, "the longest file", s, Report{Dirs: 1, Files: 1, Pages: 1 + inode.Need(api.MaxFile)})
	flipPage(t, s, pointer(t, s, 2, api.Pointers-1, 0))
	wantFault(t, "its last page is missing", s, 2)
}
