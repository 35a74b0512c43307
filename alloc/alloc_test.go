package alloc

import (
	"bytes"
	"math"
	"slices"
	"testing"

	"dunnage/api"
	"dunnage/bcache"
	"dunnage/disk"
	"dunnage/wal"
)

const dirt = 0xa5 // what lies on all pages before anybody writes there

func full(x int) []byte {
	return bytes.Repeat([]byte{byte(x)}, api.SectorBytes)
}

// begun is a page that begins so; all else of it is 0.
func begun(b ...byte) []byte {
	page := full(0)
	copy(page, b)
	return page
}

func wantError(t *testing.T, what string, got, want api.Errno) {
	t.Helper()
	if got != want {
		t.Errorf("%s: error %d, want %d", what, got, want)
	}
}

func second[T any](_ T, e api.Errno) api.Errno {
	return e
}

// cacheOf is a cache of so many pages of dirt, of which at most room may be written.
func cacheOf(t *testing.T, pages, room int) *bcache.Cache {
	t.Helper()
	image := [][]byte{}
	for range 1 + room {
		image = append(image, full(0))
	}
	for range pages {
		image = append(image, full(dirt))
	}
	d, e := disk.Load(image...)
	wantError(t, "disk.Load", e, api.OK)
	return cached(t, d, room)
}

func cached(t *testing.T, d *disk.Disk, size int) *bcache.Cache {
	t.Helper()
	l, e := wal.Open(d, size)
	wantError(t, "wal.Open", e, api.OK)
	c, e := bcache.New(l, 8)
	if e != api.OK || c == nil {
		t.Fatalf("bcache.New: error %d", e)
	}
	return c
}

func made(t *testing.T, c *bcache.Cache, inodes int) *Map {
	t.Helper()
	m, e := Make(c, inodes)
	if e != api.OK || m == nil {
		t.Fatalf("Make of %d inodes: error %d", inodes, e)
	}
	return m
}

func opened(t *testing.T, c *bcache.Cache) *Map {
	t.Helper()
	m, e := Open(c)
	if e != api.OK || m == nil {
		t.Fatalf("Open: error %d", e)
	}
	return m
}

// kept is a map that was made and committed, so that all the cache's room is there.
func kept(t *testing.T, pages, inodes, room int) *Map {
	t.Helper()
	m := made(t, cacheOf(t, pages, room), inodes)
	wantError(t, "Commit", m.Cache().Commit(), api.OK)
	return m
}

func commit(t *testing.T, m *Map) {
	t.Helper()
	wantError(t, "Commit", m.Cache().Commit(), api.OK)
}

func wantPage(t *testing.T, c *bcache.Cache, n int, want []byte) {
	t.Helper()
	b, e := c.Read(n)
	wantError(t, "Read", e, api.OK)
	if !bytes.Equal(b, want) {
		t.Errorf("page %d is % x.., want % x..", n, b[:16], want[:16])
	}
}

func wantFree(t *testing.T, what string, m *Map, pages, inodes int) {
	t.Helper()
	if p, i := m.Free(); p != pages || i != inodes {
		t.Errorf("%s: %d pages and %d inodes are free, want %d and %d", what, p, i, pages, inodes)
	}
}

func takePage(t *testing.T, m *Map, want int) {
	t.Helper()
	if n, e := m.Page(); e != api.OK || n != want {
		t.Errorf("Page: %d, error %d, want %d", n, e, want)
	}
}

func takeInode(t *testing.T, m *Map, want int) {
	t.Helper()
	if i, e := m.Inode(); e != api.OK || i != want {
		t.Errorf("Inode: %d, error %d, want %d", i, e, want)
	}
}

// wantNone: a number beside an error, or another error.
func wantNone(t *testing.T, what string, n int, e, want api.Errno) {
	t.Helper()
	if n != 0 || e != want {
		t.Errorf("%s: %d, error %d, want 0, error %d", what, n, e, want)
	}
}

// state is all that a map and its cache tell.
type state struct {
	pages         [][]byte
	dirty         []int
	free          [2]int
	used          []bool
	first, inodes int
}

func stateOf(m *Map) state {
	var s state
	c := m.Cache()
	for n := range c.Log().Pages() {
		b, _ := c.Read(n)
		s.pages = append(s.pages, b)
		s.used = append(s.used, m.Used(n))
	}
	for i := range m.Inodes() {
		s.used = append(s.used, m.UsedInode(i))
	}
	s.free[0], s.free[1] = m.Free()
	s.dirty, s.first, s.inodes = c.Dirty(), m.First(), m.Inodes()
	return s
}

func (s state) same(o state) bool {
	return slices.EqualFunc(s.pages, o.pages, bytes.Equal) && slices.Equal(s.dirty, o.dirty) && s.told(o)
}

// told tells whether two maps say the same, whatever is dirty.
func (s state) told(o state) bool {
	return s.free == o.free && slices.Equal(s.used, o.used) && s.first == o.first && s.inodes == o.inodes
}

// wantStill: a call that has an error changes nothing.
func wantStill(t *testing.T, what string, m *Map, call func()) {
	t.Helper()
	was := stateOf(m)
	call()
	if !was.same(stateOf(m)) {
		t.Errorf("%s: something has changed", what)
	}
}

// Chapter 5, 'Words', and P5.1: each byte of the pages ahead of First, whatever lay there.
func TestMakeWrites(t *testing.T) {
	c := cacheOf(t, 300, 20)
	m := made(t, c, 72)
	wantPage(t, c, 0, begun(0x44, 0x55, 0x4e, 0x31, 0, 0, 1, 44, 0, 0, 0, 72))
	wantPage(t, c, 1, begun(1))
	wantPage(t, c, 2, begun(0xff, 0x0f))
	for n := 3; n < 12; n++ {
		wantPage(t, c, n, full(0))
	}
	for n := 12; n < 300; n++ {
		wantPage(t, c, n, full(dirt))
	}
	if dirty := c.Dirty(); !slices.Equal(dirty, []int{0, 1, 2, 3, 4, 5, 6, 7, 8, 9, 10, 11}) {
		t.Errorf("dirty: %v", dirty)
	}
	if m.First() != 12 || m.Inodes() != 72 || m.Cache() != c {
		t.Errorf("First %d, %d inodes", m.First(), m.Inodes())
	}
	wantFree(t, "Make", m, 288, 71)
}

// P5.1: a map in whose place there was one is as a new one.
func TestMakeAnew(t *testing.T) {
	m := kept(t, 40, 16, 20)
	for range 9 {
		m.Page()
		m.Inode()
	}
	commit(t, m)
	m = made(t, m.Cache(), 8)
	wantFree(t, "Make anew", m, 36, 7)
	wantPage(t, m.Cache(), 1, begun(1))
	wantPage(t, m.Cache(), 2, begun(0x0f))
}

// P5.1: how many inodes there may be, and how many pages.
func TestMakeRange(t *testing.T) {
	for _, x := range []struct{ pages, inodes int }{
		{40, 0}, {40, 1}, {40, 7}, {40, 9}, {40, 12}, {40, -8}, {40, -1}, {40, math.MinInt}, {40, math.MaxInt}, {40, math.MaxInt - 7},
		{200, api.MaxInodes + 8}, {200, api.MaxInodes + 1}, {200, api.MaxInodes - 1}, {200, 1 << 32},
		{4, 8}, {3, 8}, {1, 8}, {5, 16}, {67, api.MaxInodes}, {40, 296},
	} {
		c := cacheOf(t, x.pages, 80)
		m, e := Make(c, x.inodes)
		if m != nil || e != api.ErrRange {
			t.Errorf("Make of %d inodes on %d pages: error %d", x.inodes, x.pages, e)
		}
		if len(c.Dirty()) != 0 {
			t.Error("something was written")
		}
	}
	for _, x := range []struct{ pages, inodes, first int }{
		{5, 8, 4}, {6, 16, 5}, {68, api.MaxInodes, 67}, {40, 288, 39}, {4014, 8, 4}, {4014, api.MaxInodes, 67},
	} {
		m := made(t, cacheOf(t, x.pages, 80), x.inodes)
		wantFree(t, "Make", m, x.pages-x.first, x.inodes-1)
		if m.First() != x.first || m.Inodes() != x.inodes {
			t.Errorf("Make of %d inodes on %d pages: First %d", x.inodes, x.pages, m.First())
		}
		takePage(t, m, x.first)
	}
}

// P5.1, P2: the cache's room, and the errors' order.
func TestMakeRoom(t *testing.T) {
	for _, x := range []struct{ inodes, needs int }{{8, 4}, {24, 6}, {api.MaxInodes, 67}} {
		c := cacheOf(t, 90, x.needs-1)
		m, e := Make(c, x.inodes)
		if m != nil || e != api.ErrFull || len(c.Dirty()) != 0 {
			t.Errorf("%d inodes in a room of %d: error %d, dirty %v", x.inodes, x.needs-1, e, c.Dirty())
		}
		c = cacheOf(t, 90, x.needs)
		made(t, c, x.inodes)
		if c.Room() != 0 {
			t.Errorf("%d inodes leave a room of %d", x.inodes, c.Room())
		}
		c = cacheOf(t, 90, x.needs)
		wantError(t, "Write", c.Write(80, full(1)...), api.OK)
		m, e = Make(c, x.inodes)
		if m != nil || e != api.ErrFull || !slices.Equal(c.Dirty(), []int{80}) {
			t.Errorf("%d inodes beside a dirty page: error %d, dirty %v", x.inodes, e, c.Dirty())
		}
	}
	wantError(t, "nil and a wrong count", second(Make(nil, 7)), api.ErrNil)
	wantError(t, "a wrong count and no room", second(Make(cacheOf(t, 40, 1), 7)), api.ErrRange)
	wantError(t, "no page and no room", second(Make(cacheOf(t, 4, 1), 8)), api.ErrRange)
}

// P5.1: Open of a superblock, each byte of which may be another one.
func TestOpenBroken(t *testing.T) {
	good := begun(0x44, 0x55, 0x4e, 0x31, 0, 0, 0, 6, 0, 0, 0, 16) // no more inodes have room
	c := cacheOf(t, 6, 80)
	for at := range good {
		for _, x := range []byte{1, 0x80} {
			b := bytes.Clone(good)
			b[at] ^= x
			wantBroken(t, c, b)
		}
	}
	wantBroken(t, c, full(0))
	wantBroken(t, c, full(dirt))
	wantError(t, "Write", c.Write(0, good...), api.OK)
	if m := opened(t, c); m.Inodes() != 16 || m.First() != 5 {
		t.Errorf("%d inodes, First %d", m.Inodes(), m.First())
	}
}

func wantBroken(t *testing.T, c *bcache.Cache, superblock []byte) {
	t.Helper()
	wantError(t, "Write", c.Write(0, superblock...), api.OK)
	if m, e := Open(c); m != nil || e != api.ErrBroken {
		t.Errorf("Open of % x..: error %d", superblock[:16], e)
	}
}

// P5.1: inodes that may not be.
func TestOpenInodes(t *testing.T) {
	c := cacheOf(t, 69, 80)
	for inodes := range 600 {
		b := begun(0x44, 0x55, 0x4e, 0x31, 0, 0, 0, 69, 0, 0, byte(inodes>>8), byte(inodes))
		if inodes < 8 || inodes > api.MaxInodes || inodes%8 != 0 {
			wantBroken(t, c, b)
			continue
		}
		wantError(t, "Write", c.Write(0, b...), api.OK)
		if m := opened(t, c); m.Inodes() != inodes || m.Cache() != c {
			t.Errorf("%d inodes, want %d", m.Inodes(), inodes)
		}
	}
	for _, high := range []byte{1, 0x7f, 0x80, 0xff} {
		wantBroken(t, c, begun(0x44, 0x55, 0x4e, 0x31, 0, 0, 0, 69, high, 0, 0, 8))
		wantBroken(t, c, begun(0x44, 0x55, 0x4e, 0x31, high, 0, 0, 69, 0, 0, 0, 8))
	}
	c = cacheOf(t, 5, 80)
	wantBroken(t, c, begun(0x44, 0x55, 0x4e, 0x31, 0, 0, 0, 5, 0, 0, 0, 16)) // the table ends with the last page
	wantError(t, "Write", c.Write(0, begun(0x44, 0x55, 0x4e, 0x31, 0, 0, 0, 5, 0, 0, 0, 8)...), api.OK)
	opened(t, c)
}

// P5.1: a file system lies on just as many pages as it was made for.
func TestOpenOnOtherPages(t *testing.T) {
	m := kept(t, 40, 8, 9)
	image := m.Cache().Log().Disk().Safe()
	more, _ := disk.Load(append(slices.Clone(image), full(0))...)
	less, _ := disk.Load(image[:len(image)-1]...)
	wantError(t, "one page more", second(Open(cached(t, more, 9))), api.ErrBroken)
	wantError(t, "one page less", second(Open(cached(t, less, 9))), api.ErrBroken)
	same, _ := disk.Load(image...)
	opened(t, cached(t, same, 9))
}
