package bcache

import (
	"bytes"
	"math"
	"slices"
	"testing"

	"dunnage/api"
	"dunnage/disk"
	"dunnage/wal"
)

// full is a page whose bytes all tell its number, so that a torn or mixed one shows.
func full(x int) []byte {
	return bytes.Repeat([]byte{byte(x)}, api.SectorBytes)
}

// logOf is a log over a new disk, with so many pages; page n is full of n + 1.
func logOf(t *testing.T, pages, size int) *wal.Log {
	t.Helper()
	image := [][]byte{full(0)}
	for range size {
		image = append(image, full(0))
	}
	for n := range pages {
		image = append(image, full(n+1))
	}
	d, e := disk.Load(image...)
	wantError(t, "disk.Load", e, api.OK)
	return reopened(t, d, size)
}

func reopened(t *testing.T, d *disk.Disk, size int) *wal.Log {
	t.Helper()
	l, e := wal.Open(d, size)
	if e != api.OK || l == nil {
		t.Fatalf("wal.Open: error %d", e)
	}
	return l
}

func made(t *testing.T, l *wal.Log, most int) *Cache {
	t.Helper()
	c, e := New(l, most)
	if e != api.OK || c == nil {
		t.Fatalf("New with most %d: error %d", most, e)
	}
	return c
}

func wantError(t *testing.T, what string, got, want api.Errno) {
	t.Helper()
	if got != want {
		t.Errorf("%s: error %d, want %d", what, got, want)
	}
}

func put(t *testing.T, c *Cache, n, x int) {
	t.Helper()
	wantError(t, "Write", c.Write(n, full(x)...), api.OK)
}

func wantRead(t *testing.T, c *Cache, n, x int) {
	t.Helper()
	b, e := c.Read(n)
	wantError(t, "Read", e, api.OK)
	if !bytes.Equal(b, full(x)) {
		t.Errorf("page %d is not %d everywhere", n, x)
	}
}

// use reads pages one behind the other.
func use(t *testing.T, c *Cache, numbers ...int) {
	t.Helper()
	for _, n := range numbers {
		_, e := c.Read(n)
		wantError(t, "Read", e, api.OK)
	}
}

func wantCached(t *testing.T, what string, c *Cache, want ...int) {
	t.Helper()
	if got := c.Cached(); !slices.Equal(got, want) {
		t.Errorf("%s: cached %v, want %v", what, got, want)
	}
}

// wantDirty looks at Room, too: what may be dirty and is not.
func wantDirty(t *testing.T, what string, c *Cache, want ...int) {
	t.Helper()
	if got := c.Dirty(); !slices.Equal(got, want) {
		t.Errorf("%s: dirty %v, want %v", what, got, want)
	}
	if room := c.Log().Capacity() - len(want); c.Room() != room {
		t.Errorf("%s: room %d, want %d", what, c.Room(), room)
	}
}

// told are the first bytes of all pages of a log; a page of unlike bytes is a fault.
func told(t *testing.T, l *wal.Log) []int {
	t.Helper()
	var all []int
	for n := range l.Pages() {
		b, e := l.Read(n)
		if e != api.OK || !bytes.Equal(b, full(int(b[0]))) {
			t.Fatalf("page %d: error %d, or a mixed page", n, e)
		}
		all = append(all, int(b[0]))
	}
	return all
}

// P4.1, P2, P5
func TestNew(t *testing.T) {
	l := logOf(t, 4, 2)
	for _, most := range []int{1, 2, api.MaxCache} {
		c := made(t, l, most)
		wantCached(t, "New", c)
		wantDirty(t, "New", c)
		if c.Log() != l {
			t.Error("Log is another one")
		}
	}
	for _, most := range []int{0, -1, api.MaxCache + 1, math.MinInt, math.MaxInt} {
		c, e := New(l, most)
		wantError(t, "New", e, api.ErrRange)
		if c != nil {
			t.Errorf("New(%d): a cache beside an error", most)
		}
		c, e = New(nil, most)
		wantError(t, "New over nil", e, api.ErrNil)
		if c != nil {
			t.Error("a cache over nil")
		}
	}
	wantError(t, "New over nil", second(New(nil, 1)), api.ErrNil)
}

// P4.1
func TestRead(t *testing.T) {
	c := made(t, logOf(t, 6, 2), 3)
	for range 2 {
		for n := range 6 {
			wantRead(t, c, n, n+1)
			wantRead(t, c, n, n+1)
		}
	}
	put(t, c, 2, 70)
	wantRead(t, c, 2, 70)
	put(t, c, 2, 71)
	wantRead(t, c, 2, 71)
	wantRead(t, c, 3, 4)
	wantError(t, "Commit", c.Commit(), api.OK)
	wantRead(t, c, 2, 71)
	put(t, c, 2, 72)
	put(t, c, 5, 73)
	c.Abort()
	wantRead(t, c, 2, 71)
	wantRead(t, c, 5, 6)
}

// P4.1, P4.4: which pages are clean, in the order of their last use.
func TestCached(t *testing.T) {
	c := made(t, logOf(t, 9, 2), 3)
	for _, s := range []struct {
		read int
		want []int
	}{
		{5, []int{5}},
		{5, []int{5}},
		{1, []int{5, 1}},
		{3, []int{5, 1, 3}},
		{5, []int{1, 3, 5}},
		{5, []int{1, 3, 5}},
		{3, []int{1, 5, 3}},
		{8, []int{5, 3, 8}},
		{1, []int{3, 8, 1}},
		{0, []int{8, 1, 0}},
		{8, []int{1, 0, 8}},
	} {
		use(t, c, s.read)
		wantCached(t, "Read", c, s.want...)
	}
}

// P4.1, P4.4: most of 1, and of MaxCache.
func TestCachedAtTheEdges(t *testing.T) {
	c := made(t, logOf(t, 3, 1), 1)
	for _, n := range []int{0, 1, 1, 0, 2} {
		use(t, c, n)
		wantCached(t, "most 1", c, n)
	}
	c = made(t, logOf(t, 80, 1), api.MaxCache)
	var used []int
	for n := range 80 {
		use(t, c, n)
		used = append(used, n)
		wantCached(t, "most MaxCache", c, used[max(0, len(used)-64):]...)
	}
	use(t, c, 16, 79, 17)
	wantCached(t, "most MaxCache", c, append(used[18:79], 16, 79, 17)...)
}

// P4.1, P4.2: a page that is written is not clean any more, nor behind Commit and Abort, till it is read.
func TestCleanAndDirty(t *testing.T) {
	for _, end := range []func(c *Cache){
		func(c *Cache) { wantError(t, "Commit", c.Commit(), api.OK) },
		func(c *Cache) { c.Abort() },
	} {
		c := made(t, logOf(t, 9, 5), 3)
		use(t, c, 4, 2, 6)
		put(t, c, 2, 50)
		wantCached(t, "a clean page is written", c, 4, 6)
		wantDirty(t, "a clean page is written", c, 2)
		put(t, c, 8, 51)
		put(t, c, 0, 52)
		wantCached(t, "others are written", c, 4, 6)
		wantDirty(t, "others are written", c, 0, 2, 8)
		use(t, c, 8, 2, 0, 4) // of a dirty page a Read changes nothing
		wantCached(t, "dirty pages are read", c, 6, 4)
		use(t, c, 1)
		wantCached(t, "dirty pages stand beside it", c, 6, 4, 1)
		wantDirty(t, "others are read", c, 0, 2, 8)
		put(t, c, 8, 53)
		wantDirty(t, "a dirty page is written anew", c, 0, 2, 8)
		end(c)
		wantCached(t, "the end", c, 6, 4, 1)
		wantDirty(t, "the end", c)
		use(t, c, 2)
		wantCached(t, "behind the end", c, 4, 1, 2)
	}
}

// P4.1, P4.2: a full transaction.
func TestRoom(t *testing.T) {
	for _, size := range []int{1, 2, 100, 130} {
		most := min(size, api.MaxGroup)
		c := made(t, logOf(t, 140, size), 2)
		for n := range most {
			if c.Room() != most-n {
				t.Errorf("room %d behind %d of %d writes", c.Room(), n, most)
			}
			put(t, c, 139-n, 5)
		}
		use(t, c, 7, 3)
		wantError(t, "one more", c.Write(3, full(6)...), api.ErrFull)
		wantCached(t, "behind an error", c, 7, 3)
		wantRead(t, c, 3, 4)
		put(t, c, 139, 7) // it is dirty already
		wantRead(t, c, 139, 7)
		wantError(t, "one more", c.Write(3, full(6)...), api.ErrFull)
		if len(c.Dirty()) != most || c.Room() != 0 {
			t.Errorf("%d are dirty, room %d", len(c.Dirty()), c.Room())
		}
		wantError(t, "Commit", c.Commit(), api.OK)
		wantDirty(t, "Commit", c)
		put(t, c, 3, 6)
		wantDirty(t, "Write behind Commit", c, 3)
	}
}

// P4.1, P2
func TestErrors(t *testing.T) {
	c := made(t, logOf(t, 4, 2), 3)
	use(t, c, 3, 1)
	put(t, c, 0, 50)
	for _, n := range []int{-1, 4, 5, math.MinInt, math.MaxInt} {
		b, e := c.Read(n)
		wantError(t, "Read", e, api.ErrRange)
		if len(b) != 0 {
			t.Errorf("Read(%d): bytes beside an error", n)
		}
		wantError(t, "Write", c.Write(n, full(9)...), api.ErrRange)
		wantError(t, "Write of nothing", c.Write(n), api.ErrRange)
	}
	bad := [][]byte{nil, {}, {9}, full(9)[1:], append(full(9), 9)}
	for _, b := range bad {
		wantError(t, "Write", c.Write(1, b...), api.ErrForm)
		wantError(t, "Write of a dirty page", c.Write(0, b...), api.ErrForm)
	}
	wantCached(t, "behind errors", c, 3, 1)
	wantDirty(t, "behind errors", c, 0)
	put(t, c, 2, 51)
	wantError(t, "full, of no page", c.Write(4, full(9)...), api.ErrRange)
	wantError(t, "full, of no page, too short", c.Write(-1, 9), api.ErrRange)
	wantError(t, "full, too short", c.Write(1, 9), api.ErrForm)
	wantError(t, "full", c.Write(1, full(9)...), api.ErrFull)
	wantCached(t, "behind errors", c, 3, 1)
	wantDirty(t, "behind errors", c, 0, 2)
	for n, x := range []int{50, 2, 51, 4} {
		wantRead(t, c, n, x)
	}
}

// P4.2: the dirty pages are one group of the log.
func TestCommit(t *testing.T) {
	l := logOf(t, 9, 4)
	c := made(t, l, 3)
	wantError(t, "Commit of none", c.Commit(), api.OK)
	if l.Disk().Ops() != 0 {
		t.Error("Commit of none does something")
	}
	for i, n := range []int{7, 0, 4, 0} {
		put(t, c, n, 60+i)
	}
	if ops := l.Disk().Ops(); ops != 0 || !slices.Equal(told(t, l), []int{1, 2, 3, 4, 5, 6, 7, 8, 9}) {
		t.Error("a Write is seen in the log")
	}
	wantError(t, "Commit", c.Commit(), api.OK)
	if got := told(t, l); !slices.Equal(got, []int{63, 2, 3, 4, 62, 6, 7, 60, 9}) {
		t.Errorf("the log has %v", got)
	}
	if ops := l.Disk().Ops(); ops != 2*3+2+4 {
		t.Errorf("%d ops: not one group", ops)
	}
	wantError(t, "Commit of none", c.Commit(), api.OK)
	if c.Abort() != 0 || l.Disk().Ops() != 12 {
		t.Error("something is left behind Commit")
	}
}

// P4.2, P4.6
func TestAbort(t *testing.T) {
	l := logOf(t, 5, 3)
	c := made(t, l, 2)
	if c.Abort() != 0 {
		t.Error("Abort of none")
	}
	put(t, c, 1, 50)
	wantError(t, "Commit", c.Commit(), api.OK)
	ops := l.Disk().Ops()
	put(t, c, 1, 60)
	put(t, c, 4, 61)
	put(t, c, 1, 62)
	put(t, c, 0, 63)
	if n := c.Abort(); n != 3 {
		t.Errorf("Abort: %d, want 3", n)
	}
	wantDirty(t, "Abort", c)
	for n, x := range []int{1, 50, 3, 4, 5} {
		wantRead(t, c, n, x)
	}
	wantError(t, "Commit", c.Commit(), api.OK)
	if l.Disk().Ops() != ops || !slices.Equal(told(t, l), []int{1, 50, 3, 4, 5}) {
		t.Error("what was forgotten is written")
	}
}

// P4.1, P4.3: a page that is not dirty is as the log has it, whoever wrote it there.
func TestLogIsWrittenPastTheCache(t *testing.T) {
	for _, most := range []int{1, 2, api.MaxCache} {
		l := logOf(t, 4, 3)
		c, other := made(t, l, most), made(t, l, most)
		use(t, c, 0, 1, 2, 3)
		put(t, c, 3, 80)
		wantError(t, "wal.Commit", c.Log().Commit(api.Page{Number: 0, Bytes: full(70)}, api.Page{Number: 3, Bytes: full(71)}), api.OK)
		put(t, other, 1, 72)
		wantError(t, "Commit of another cache", other.Commit(), api.OK)
		for n, x := range []int{70, 72, 3, 80} {
			wantRead(t, c, n, x)
		}
		wantError(t, "Commit", c.Commit(), api.OK)
		if got := told(t, l); !slices.Equal(got, []int{70, 72, 3, 80}) {
			t.Errorf("most %d: the log has %v", most, got)
		}
	}
}

func second[T any](_ T, e api.Errno) api.Errno { return e }
