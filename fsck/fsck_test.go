package fsck

import (
	"bytes"
	"testing"

	"dunnage/alloc"
	"dunnage/api"
	"dunnage/bcache"
	"dunnage/disk"
	"dunnage/fsys"
	"dunnage/inode"
	"dunnage/octets"
	"dunnage/wal"
)

func wantError(t *testing.T, what string, got, want api.Errno) {
	t.Helper()
	if got != want {
		t.Errorf("%s: error %d, want %d", what, got, want)
	}
}

// text is so many bytes, none of them 0.
func text(n, seed int) []byte {
	b := make([]byte, n)
	for i := range b {
		b[i] = byte(1 + (i*7+i/255+seed*31)%255)
	}
	return b
}

// made is a new file system on so many pages, with the greatest log.
func made(t *testing.T, pages, inodes int) *fsys.FS {
	t.Helper()
	d, e := disk.New(1 + api.MaxGroup + pages)
	wantError(t, "disk.New", e, api.OK)
	f, e := fsys.Make(d, api.MaxGroup, inodes)
	if f == nil || e != api.OK {
		t.Fatalf("Make: error %d", e)
	}
	return f
}

func cacheOf(s *inode.Store) *bcache.Cache {
	return s.Map().Cache()
}

// The inodes of the planted tree, by what they are.
const (
	folder = 2 + iota // /d
	hollow            // /d/e, a directory without names
	long              // /f, with two pages behind its indirect one
	twin              // /d/g and /g, with two pages
	link              // /l
	empty             // /d/h, without bytes
	ten               // /z, with as many pages as need no indirect one
	free              // nobody has it, nor those behind it
)

const (
	plantedPages  = 60
	plantedInodes = 16
	plantedFirst  = 5
	lastPage      = plantedPages - 1
)

// planted is the inodes of a committed tree in which there is something of each kind.
func planted(t *testing.T) *inode.Store {
	t.Helper()
	f := made(t, plantedPages, plantedInodes)
	for _, e := range []api.Errno{
		f.Mkdir("/d", 493), f.Mkdir("/d/e", 493), f.Write("/f", 420, text(6000, 1)...), f.Write("/d/g", 420, text(700, 2)...),
		f.Symlink("/l", "target"), f.Write("/d/h", 420), f.Write("/z", 420, text(5120, 3)...), f.Link("/d/g", "/g"), f.Commit(),
	} {
		wantError(t, "planting", e, api.OK)
	}
	return f.Inodes()
}

// plantedReport is what Check tells of the planted tree: of the pages 13 are of /f, 10 of /z, 2 of /d/g, and one each of /, /d and /l.
var plantedReport = Report{Dirs: 3, Files: 4, Links: 1, Pages: 28}

func wantReport(t *testing.T, what string, s *inode.Store, want Report) {
	t.Helper()
	if r, e := Check(s); r != want || e != api.OK {
		t.Errorf("%s: %+v, error %d, want %+v", what, r, e, want)
	}
}

// pointOf is the point that does not hold; 0, if all hold.
func pointOf(s *inode.Store) (point fault) {
	defer func() { point, _ = recover().(fault) }()
	over(s).all()
	return 0
}

// wantFault: the check finds what is wrong, and finds it by the point that asks for it.
func wantFault(t *testing.T, what string, s *inode.Store, want fault) {
	t.Helper()
	if r, e := Check(s); r != (Report{}) || e != api.ErrBroken {
		t.Errorf("%s: %+v, error %d, want %d", what, r, e, api.ErrBroken)
	}
	if got := pointOf(s); got != want {
		t.Errorf("%s: point %d does not hold, want %d", what, got, want)
	}
}

// wrong is a change to the planted tree, and the point that does not hold behind it.
type wrong struct {
	what  string
	point fault
	do    func(t *testing.T, s *inode.Store)
}

func wantFaults(t *testing.T, list ...wrong) {
	t.Helper()
	for _, x := range list {
		s := planted(t)
		x.do(t, s)
		wantFault(t, x.what, s, x.point)
	}
}

// poke lets bytes stand at a place of a page, as if nobody had written them.
func poke(t *testing.T, s *inode.Store, page, at int, b ...byte) {
	t.Helper()
	whole, e := cacheOf(s).Read(page)
	wantError(t, "Read", e, api.OK)
	if copy(whole[at:], b) < len(b) {
		t.Fatalf("%d bytes at %d go past the page", len(b), at)
	}
	wantError(t, "Write", cacheOf(s).Write(page, whole...), api.OK)
}

// four are a number's bytes.
func four(n int) []byte {
	b := make([]byte, 4)
	octets.Put(b, n)
	return b
}

// flip lets a page be taken that was free, or free that was taken; an inode, if its bits' page is that of inodes.
func flip(t *testing.T, s *inode.Store, bitsAt, n int) {
	t.Helper()
	whole, e := cacheOf(s).Read(bitsAt)
	wantError(t, "Read", e, api.OK)
	poke(t, s, bitsAt, n/8, whole[n/8]^1<<(n%8))
}

func flipPage(t *testing.T, s *inode.Store, n int) {
	t.Helper()
	flip(t, s, 2, n)
}

func flipInode(t *testing.T, s *inode.Store, i int) {
	t.Helper()
	flip(t, s, 1, i)
}

// edit lets an inode's place in the table be another one; a free one is taken.
func edit(t *testing.T, s *inode.Store, i int, change func(node *api.Inode)) {
	t.Helper()
	node, e := s.Get(i)
	if e == api.ErrNone {
		flipInode(t, s, i)
	}
	change(&node)
	b := []byte{byte(node.Kind), byte(node.Mode >> 8), byte(node.Mode), byte(node.Links >> 8), byte(node.Links)}
	b = append(b, four(node.Size)...)
	for _, n := range node.Pages {
		b = append(b, four(n)...)
	}
	page, at, e := s.Map().Table(i)
	wantError(t, "Table", e, api.OK)
	poke(t, s, page, at, b...)
}

// pointer lets a number of an inode's indirect page be another one: which one it was.
func pointer(t *testing.T, s *inode.Store, i, k, n int) int {
	t.Helper()
	node, _ := s.Get(i)
	indirect := node.Pages[api.Direct]
	whole, e := cacheOf(s).Read(indirect)
	wantError(t, "Read", e, api.OK)
	poke(t, s, indirect, 4*k, four(n)...)
	return octets.Number(whole[4*k:][:4])
}

// place is the page of an entry of a directory, and where it stands there.
func place(t *testing.T, s *inode.Store, directory, k int) (page, at int) {
	t.Helper()
	pages, e := s.Pages(directory)
	if e != api.OK || k/8 >= len(pages) {
		t.Fatalf("inode %d has no entry %d, error %d", directory, k, e)
	}
	return pages[k/8], k % 8 * api.EntryBytes
}

// enter lets an entry of a directory be of an inode and a name; its length is told by itself.
func enter(t *testing.T, s *inode.Store, directory, k, i, length int, name string) {
	t.Helper()
	b := make([]byte, api.EntryBytes)
	copy(b, four(i))
	b[4] = byte(length)
	copy(b[5:], name)
	page, at := place(t, s, directory, k)
	poke(t, s, page, at, b...)
}

// reloaded is what is committed, opened anew with each layer by itself.
func reloaded(t *testing.T, image [][]byte) *inode.Store {
	t.Helper()
	d, e := disk.Load(image...)
	wantError(t, "disk.Load", e, api.OK)
	l, e := wal.Open(d, api.MaxGroup)
	wantError(t, "wal.Open", e, api.OK)
	c, e := bcache.New(l, 8)
	wantError(t, "bcache.New", e, api.OK)
	m, e := alloc.Open(c)
	wantError(t, "alloc.Open", e, api.OK)
	s, e := inode.New(m)
	wantError(t, "inode.New", e, api.OK)
	return s
}

// bare are all pages, as the cache tells them.
func bare(s *inode.Store) [][]byte {
	var all [][]byte
	for n := range cacheOf(s).Log().Pages() {
		b, _ := cacheOf(s).Read(n)
		all = append(all, b)
	}
	return all
}

// The example of chapter 9: a new file system, of any size.
func TestNew(t *testing.T) {
	wantReport(t, "the smallest one", made(t, 5, 8).Inodes(), Report{Dirs: 1})
	wantReport(t, "one page more", made(t, 6, 8).Inodes(), Report{Dirs: 1})
	wantReport(t, "many inodes", made(t, 90, api.MaxInodes).Inodes(), Report{Dirs: 1})
	wantReport(t, "the greatest one", made(t, api.MaxSectors-1-api.MaxGroup, api.MaxInodes).Inodes(), Report{Dirs: 1})
}

// P9.1: how many there are of each kind, each once; the pages with the indirect ones.
func TestReport(t *testing.T) {
	s := planted(t)
	wantReport(t, "planted", s, plantedReport)
	wantReport(t, "reloaded", reloaded(t, cacheOf(s).Log().Disk().Image()), plantedReport)
	f := made(t, 120, 32)
	want := Report{Dirs: 1}
	for _, x := range []struct {
		what string
		e    api.Errno
		more Report
	}{
		{"a directory, and the root's first page", f.Mkdir("/d", 493), Report{Dirs: 1, Pages: 1}},
		{"a file without bytes", f.Write("/0", 420), Report{Files: 1}},
		{"a file of a page", f.Write("/1", 420, text(512, 1)...), Report{Files: 1, Pages: 1}},
		{"a file of two", f.Write("/2", 420, text(513, 1)...), Report{Files: 1, Pages: 2}},
		{"a file of ten", f.Write("/10", 420, text(5120, 1)...), Report{Files: 1, Pages: 10}},
		{"a file with an indirect page", f.Write("/11", 420, text(5121, 1)...), Report{Files: 1, Pages: 12}},
		{"a link, of the greatest length", f.Symlink("/l", string(text(api.MaxPath, 1))), Report{Links: 1, Pages: 1}},
		{"a link, of the smallest one", f.Symlink("/m", "m"), Report{Links: 1, Pages: 1}},
		{"the root's second page", f.Mkdir("/e", 493), Report{Dirs: 1, Pages: 1}},
		{"one more name of a file, and a directory's first page", f.Link("/2", "/d/2"), Report{Pages: 1}},
		{"one more name of a link", f.Link("/l", "/d/l"), Report{}},
	} {
		wantError(t, x.what, x.e, api.OK)
		want = Report{want.Dirs + x.more.Dirs, want.Files + x.more.Files, want.Links + x.more.Links, want.Pages + x.more.Pages}
	}
	wantReport(t, "one of each kind", f.Inodes(), want)
}

// P9.1: what is not committed yet is looked at, and no more what was forgotten.
func TestLooksAtWhatIsThere(t *testing.T) {
	s := planted(t)
	flipPage(t, s, lastPage)
	wantFault(t, "not committed", s, 3)
	cacheOf(s).Abort()
	wantReport(t, "forgotten", s, plantedReport)
	flipPage(t, s, lastPage)
	wantError(t, "Commit", cacheOf(s).Commit(), api.OK)
	wantFault(t, "committed", reloaded(t, cacheOf(s).Log().Disk().Image()), 3)
}

// P9.1: what no point speaks of may be as it likes: modes, bytes behind a size, free pages and inodes, an inode's spare bytes.
func TestWhatMayBe(t *testing.T) {
	for _, mode := range []int{0, 1, 4094, 4095} {
		for _, i := range []int{root, folder, long, link} {
			s := planted(t)
			edit(t, s, i, func(node *api.Inode) { node.Mode = mode })
			wantReport(t, "a mode", s, plantedReport)
		}
	}
	s := planted(t)
	for n := plantedFirst; n < plantedPages; n++ {
		if !s.Map().Used(n) {
			poke(t, s, n, 0, bytes.Repeat([]byte{0xff}, api.SectorBytes)...)
		}
	}
	for i := 0; i < plantedInodes; i++ {
		page, at, _ := s.Map().Table(i)
		if i == 0 || i >= free {
			poke(t, s, page, at, bytes.Repeat([]byte{0xff}, 64)...)
		}
		poke(t, s, page, at+53, text(11, i)...)
	}
	pages, _ := s.Pages(link)
	poke(t, s, pages[0], len("target"), text(100, 1)...)
	wantReport(t, "what no point speaks of", s, plantedReport)
}
