package wal

import (
	"bytes"
	"math"
	"slices"
	"testing"

	"dunnage/api"
	"dunnage/disk"
)

// full is a page whose bytes all tell its number, so that a torn or mixed one shows.
func full(x int) []byte {
	return bytes.Repeat([]byte{byte(x)}, api.SectorBytes)
}

// begun is a sector with these first bytes; all else is 0.
func begun(first ...byte) []byte {
	b := make([]byte, api.SectorBytes)
	copy(b, first)
	return b
}

func page(n, x int) api.Page {
	return api.Page{Number: n, Bytes: full(x)}
}

// blank is a disk that is 0 everywhere.
func blank(t *testing.T, sectors int) *disk.Disk {
	t.Helper()
	d, e := disk.New(sectors)
	wantError(t, "disk.New", e, api.OK)
	return d
}

// headed is a disk with this head, whose other sectors are full of their numbers; nothing waits.
func headed(t *testing.T, sectors int, head []byte) *disk.Disk {
	t.Helper()
	image := [][]byte{head}
	for n := 1; n < sectors; n++ {
		image = append(image, full(n))
	}
	d, e := disk.Load(image...)
	wantError(t, "disk.Load", e, api.OK)
	return d
}

func opened(t *testing.T, d *disk.Disk, size int) *Log {
	t.Helper()
	l, e := Open(d, size)
	if e != api.OK || l == nil {
		t.Fatalf("Open with size %d: error %d", size, e)
	}
	return l
}

func wantError(t *testing.T, what string, got, want api.Errno) {
	t.Helper()
	if got != want {
		t.Errorf("%s: error %d, want %d", what, got, want)
	}
}

// told are the first bytes of all pages; a page of unlike bytes is a fault.
func told(t *testing.T, l *Log) []int {
	t.Helper()
	var all []int
	for n := range l.Pages() {
		b, e := l.Read(n)
		if e != api.OK || len(b) != api.SectorBytes || !bytes.Equal(b, full(int(b[0]))) {
			t.Fatalf("page %d: error %d, or a mixed page", n, e)
		}
		all = append(all, int(b[0]))
	}
	return all
}

func wantPages(t *testing.T, what string, l *Log, want ...int) {
	t.Helper()
	if got := told(t, l); !slices.Equal(got, want) {
		t.Errorf("%s: pages %v, want %v", what, got, want)
	}
}

func wantImage(t *testing.T, what string, d *disk.Disk, want [][]byte) {
	t.Helper()
	if !slices.EqualFunc(d.Image(), want, bytes.Equal) {
		t.Errorf("%s: another image", what)
	}
}

// P3.1, P3.2, P5
func TestOpenSizes(t *testing.T) {
	for _, c := range []struct{ sectors, size, pages, capacity int }{
		{8, 3, 4, 3},
		{8, 1, 6, 1},
		{8, 6, 1, 6}, // one page alone
		{3, 1, 1, 1},
		{300, api.MaxGroup - 1, 200, 99},
		{300, api.MaxGroup, 199, 100},
		{300, api.MaxGroup + 1, 198, 100},
		{300, 298, 1, 100},
		{api.MaxSectors, 1, 4094, 1},
		{api.MaxSectors, 4094, 1, 100},
	} {
		l := opened(t, blank(t, c.sectors), c.size)
		if l.Pages() != c.pages || l.Capacity() != c.capacity || l.Recovered() != 0 {
			t.Errorf("%d sectors, size %d: %d pages, capacity %d, %d recovered", c.sectors, c.size, l.Pages(), l.Capacity(), l.Recovered())
		}
		if l.Disk().Ops() != 0 || !disk.Same(l.Disk(), blank(t, c.sectors)) {
			t.Errorf("%d sectors, size %d: something was written", c.sectors, c.size)
		}
	}
}

// P3.1, P2, P5
func TestOpenErrors(t *testing.T) {
	bad := headed(t, 8, full(9))
	for _, c := range []struct {
		d    *disk.Disk
		size int
		want api.Errno
	}{
		{nil, 3, api.ErrNil},
		{nil, 0, api.ErrNil},
		{blank(t, 8), 0, api.ErrRange},
		{blank(t, 8), -1, api.ErrRange},
		{blank(t, 8), 7, api.ErrRange}, // it leaves no page
		{blank(t, 8), 8, api.ErrRange},
		{blank(t, 8), 9, api.ErrRange},
		{blank(t, 8), math.MinInt, api.ErrRange},
		{blank(t, 8), math.MaxInt, api.ErrRange},
		{blank(t, 1), 1, api.ErrRange},
		{blank(t, 1), 0, api.ErrRange},
		{blank(t, 1), -1, api.ErrRange},
		{blank(t, 2), 1, api.ErrRange},
		{bad, 0, api.ErrRange}, // and the head is none: the range is named first
		{bad, 7, api.ErrRange},
		{bad, 3, api.ErrBroken},
	} {
		l, e := Open(c.d, c.size)
		wantError(t, "Open", e, c.want)
		if l != nil {
			t.Errorf("Open with size %d: a log beside an error", c.size)
		}
	}
}

// P3.2
func TestRead(t *testing.T) {
	l := opened(t, headed(t, 8, begun()), 3)
	wantPages(t, "the homes", l, 4, 5, 6, 7)
	for _, n := range []int{-1, 4, 5, math.MinInt, math.MaxInt} {
		b, e := l.Read(n)
		wantError(t, "Read", e, api.ErrRange)
		if len(b) != 0 {
			t.Errorf("Read(%d): bytes beside an error", n)
		}
	}
	only := opened(t, headed(t, 8, begun()), 6)
	wantPages(t, "one page", only, 7)
	wantError(t, "Read", second(only.Read(1)), api.ErrRange)
}

// P3.2, P3.5
func TestCommit(t *testing.T) {
	l := opened(t, blank(t, 8), 3)
	wantError(t, "Commit", l.Commit(page(2, 5), page(0, 6)), api.OK)
	wantPages(t, "two pages", l, 6, 0, 5, 0)
	wantError(t, "Commit", l.Commit(page(3, 7)), api.OK)
	wantPages(t, "one page", l, 6, 0, 5, 7)
	wantError(t, "Commit", l.Commit(page(3, 1), page(2, 2), page(0, 3)), api.OK)
	wantPages(t, "as many as may be", l, 3, 0, 2, 1)
	wantError(t, "Commit", l.Commit(page(3, 1)), api.OK)
	if ops := l.Disk().Ops(); ops != 10+8+12+8 {
		t.Errorf("%d ops", ops)
	}
	wantImage(t, "the disk", l.Disk(), [][]byte{
		begun(0x44, 0x4e), full(1), full(2), full(1), full(3), full(0), full(2), full(1),
	})
}

// P3.2: of no pages nothing is done.
func TestCommitOfNone(t *testing.T) {
	l := opened(t, headed(t, 8, begun()), 3)
	wantError(t, "Commit of none", l.Commit(), api.OK)
	wantError(t, "Commit of nil", l.Commit([]api.Page(nil)...), api.OK)
	wantError(t, "Commit of an empty list", l.Commit([]api.Page{}...), api.OK)
	if l.Disk().Ops() != 0 {
		t.Error("something was done")
	}
	wantImage(t, "the disk", l.Disk(), headed(t, 8, begun()).Image())
}

// P3.2, P3.5: MaxGroup bounds a group, where the log has more sectors.
func TestCommitOfTheMost(t *testing.T) {
	for _, size := range []int{1, 2, 99, 100, 101, 150} {
		most := min(size, 100)
		l := opened(t, blank(t, 4000), size)
		var pages []api.Page
		for i := range most + 1 {
			pages = append(pages, page(4000-size-2-i*3, i)) // from the last page on, falling
		}
		wantError(t, "one too many", l.Commit(pages...), api.ErrLong)
		if l.Disk().Ops() != 0 {
			t.Fatal("something was done beside an error")
		}
		wantError(t, "the most", l.Commit(pages[:most]...), api.OK)
		for i, p := range pages {
			if b, _ := l.Read(p.Number); i < most && !bytes.Equal(b, p.Bytes) || i == most && b[0] != 0 {
				t.Errorf("size %d: page %d of the group", size, i)
			}
		}
		if ops := l.Disk().Ops(); ops != 2*most+6 {
			t.Errorf("size %d: %d ops", size, ops)
		}
		for k := range l.Disk().Ops() + 1 {
			cut, _ := l.Disk().Cut(k)
			left, _ := cut.Crash()
			if again := opened(t, left, size).Recovered(); again != 0 && again != most {
				t.Errorf("size %d: %d pages recovered", size, again)
			}
		}
	}
}

// P3.2, P2
func TestCommitErrors(t *testing.T) {
	short, long := full(1)[1:], append(full(1), 1)
	for _, c := range []struct {
		name  string
		pages []api.Page
		want  api.Errno
	}{
		{"too many", make([]api.Page, 4), api.ErrLong},
		{"too many, and of no page", []api.Page{page(-1, 1), page(9, 1), {}, {}}, api.ErrLong},
		{"below 0", []api.Page{page(-1, 1)}, api.ErrRange},
		{"past the end", []api.Page{page(0, 1), page(4, 1)}, api.ErrRange},
		{"the least", []api.Page{page(math.MinInt, 1)}, api.ErrRange},
		{"the greatest", []api.Page{page(math.MaxInt, 1)}, api.ErrRange},
		{"as two bytes it is page 1", []api.Page{page(1<<16+1, 1)}, api.ErrRange},
		{"twice, and of no page behind", []api.Page{page(1, 1), page(1, 1), page(4, 1)}, api.ErrRange},
		{"short, and of no page behind", []api.Page{{Number: 0, Bytes: short}, page(4, 1)}, api.ErrRange},
		{"of no page, and short", []api.Page{{Number: 4, Bytes: short}}, api.ErrRange},
		{"of no page, twice", []api.Page{page(4, 1), page(4, 1)}, api.ErrRange},
		{"twice", []api.Page{page(1, 1), page(1, 1)}, api.ErrForm},
		{"twice with unlike bytes, apart", []api.Page{page(2, 1), page(1, 1), page(2, 3)}, api.ErrForm},
		{"short", []api.Page{page(0, 1), {Number: 1, Bytes: short}}, api.ErrForm},
		{"long", []api.Page{{Number: 1, Bytes: long}, page(0, 1)}, api.ErrForm},
		{"nil", []api.Page{{Number: 1}}, api.ErrForm},
		{"one byte", []api.Page{{Number: 1, Bytes: []byte{1}}}, api.ErrForm},
	} {
		l := opened(t, headed(t, 8, begun()), 3)
		wantError(t, c.name, l.Commit(c.pages...), c.want)
		wantPages(t, c.name, l, 4, 5, 6, 7)
		if l.Disk().Ops() != 0 {
			t.Errorf("%s: something was done beside an error", c.name)
		}
		wantError(t, "Commit behind an error", l.Commit(page(0, 9)), api.OK)
		wantPages(t, "Commit behind an error", l, 9, 5, 6, 7)
	}
}

// P3.2, P3.6, P4: the log's disk, the one it was opened on, and the ones it answers are apart.
func TestDisk(t *testing.T) {
	d := headed(t, 8, begun())
	wantError(t, "Write", d.Write(7, full(9)...), api.OK) // it waits, and is read
	l := opened(t, d, 3)
	wantPages(t, "what waits is read", l, 4, 5, 6, 9)
	wantError(t, "Write", d.Write(4, full(1)...), api.OK)
	wantPages(t, "behind a write to the disk that was handed in", l, 4, 5, 6, 9)
	f := l.Disk()
	wantError(t, "Write", f.Write(5, full(2)...), api.OK)
	wantError(t, "Write", f.Write(0, full(2)...), api.OK)
	wantPages(t, "behind a write to its Fork", l, 4, 5, 6, 9)
	wantError(t, "Commit", l.Commit(page(2, 3)), api.OK)
	wantImage(t, "the disk that was handed in", d, [][]byte{begun(), full(1), full(2), full(3), full(1), full(5), full(6), full(9)})
	wantImage(t, "the Fork of before", f, [][]byte{full(2), full(1), full(2), full(3), full(4), full(2), full(6), full(9)})
	if d.Ops() != 2 {
		t.Errorf("the disk that was handed in has %d ops", d.Ops())
	}
	again := opened(t, l.Disk(), 3)
	wantPages(t, "Open of Disk", again, told(t, l)...)
	if again.Recovered() != 0 || again.Disk().Ops() != l.Disk().Ops() || !disk.Same(again.Disk(), l.Disk()) {
		t.Error("Open of Disk changes it")
	}
	if again.Pages() != l.Pages() || again.Capacity() != l.Capacity() {
		t.Error("Open of Disk tells another log")
	}
}

func second[T any](_ T, e api.Errno) api.Errno { return e }
