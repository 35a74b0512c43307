package dir

import (
	"bytes"
	"math"
	"slices"
	"strconv"
	"strings"
	"testing"

	"dunnage/alloc"
	"dunnage/api"
	"dunnage/bcache"
	"dunnage/disk"
	"dunnage/inode"
	"dunnage/wal"
)

const mostNames = api.MaxFile / api.EntryBytes

func wantError(t *testing.T, what string, got, want api.Errno) {
	t.Helper()
	if got != want {
		t.Errorf("%s: error %d, want %d", what, got, want)
	}
}

func second[T any](_ T, e api.Errno) api.Errno {
	return e
}

// stored is a committed store of 16 inodes on so many pages, with a directory as inode 1, a file as 2, a link as 3.
func stored(t *testing.T, pages int) *inode.Store {
	t.Helper()
	d, e := disk.New(1 + api.MaxGroup + pages)
	wantError(t, "disk.New", e, api.OK)
	l, e := wal.Open(d, api.MaxGroup)
	wantError(t, "wal.Open", e, api.OK)
	c, e := bcache.New(l, 8)
	wantError(t, "bcache.New", e, api.OK)
	m, e := alloc.Make(c, 16)
	wantError(t, "alloc.Make", e, api.OK)
	s, e := inode.New(m)
	wantError(t, "inode.New", e, api.OK)
	for want, k := range []api.Kind{api.Dir, api.File, api.Link} {
		if i, e := s.Make(k, 493); i != want+1 || e != api.OK {
			t.Fatalf("Make: %d, error %d", i, e)
		}
	}
	commit(t, s)
	return s
}

func cacheOf(s *inode.Store) *bcache.Cache {
	return s.Map().Cache()
}

func commit(t *testing.T, s *inode.Store) {
	t.Helper()
	wantError(t, "Commit", cacheOf(s).Commit(), api.OK)
}

// add adds names to inode 1, each for the inode that follows, from one on.
func add(t *testing.T, s *inode.Store, i int, names ...string) {
	t.Helper()
	for k, name := range names {
		wantError(t, "Add of "+name, Add(s, 1, name, i+k), api.OK)
	}
}

func drop(t *testing.T, s *inode.Store, want int, name string) {
	t.Helper()
	if i, e := Drop(s, 1, name); i != want || e != api.OK {
		t.Errorf("Drop of %q: %d, error %d, want %d", name, i, e, want)
	}
}

func wantFound(t *testing.T, s *inode.Store, name string, want int) {
	t.Helper()
	if i, e := Find(s, 1, name); i != want || e != api.OK {
		t.Errorf("Find of %q: %d, error %d, want %d", name, i, e, want)
	}
}

func wantGone(t *testing.T, s *inode.Store, name string) {
	t.Helper()
	if i, e := Find(s, 1, name); i != 0 || e != api.ErrNone {
		t.Errorf("Find of %q: %d, error %d, want none", name, i, e)
	}
	if i, e := Drop(s, 1, name); i != 0 || e != api.ErrNone {
		t.Errorf("Drop of %q: %d, error %d, want none", name, i, e)
	}
}

// wantNames: List and Empty of inode 1.
func wantNames(t *testing.T, s *inode.Store, want ...string) {
	t.Helper()
	names, e := List(s, 1)
	if e != api.OK || !slices.Equal(names, want) {
		t.Errorf("List: %q, error %d, want %q", names, e, want)
	}
	if empty, e := Empty(s, 1); empty != (len(want) == 0) || e != api.OK {
		t.Errorf("Empty: %v, error %d, want %d names", empty, e, len(want))
	}
}

// wantBytes: the bytes of inode 1 are these entries.
func wantBytes(t *testing.T, s *inode.Store, entries ...[]byte) {
	t.Helper()
	b, e := s.Read(1, 0, api.MaxFile)
	wantError(t, "Read", e, api.OK)
	if want := slices.Concat(entries...); !bytes.Equal(b, want) {
		t.Errorf("the directory is % x, want % x", b, want)
	}
}

// bytesOf is an entry as chapter 7 says it; of nothing a free one.
func bytesOf(i int, name string) []byte {
	b := append([]byte{0, 0, byte(i >> 8), byte(i), byte(len(name))}, name...)
	return append(b, make([]byte, api.EntryBytes-len(b))...)
}

// all are all pages as the cache tells them.
func all(s *inode.Store) [][]byte {
	var pages [][]byte
	for n := range cacheOf(s).Log().Pages() {
		b, _ := cacheOf(s).Read(n)
		pages = append(pages, b)
	}
	return pages
}

// wantStill: nothing changes, and nothing that waits for a Commit is forgotten.
func wantStill(t *testing.T, what string, s *inode.Store, call func()) {
	t.Helper()
	was, dirty := all(s), cacheOf(s).Dirty()
	call()
	if !slices.EqualFunc(was, all(s), bytes.Equal) || !slices.Equal(dirty, cacheOf(s).Dirty()) {
		t.Errorf("%s: something has changed", what)
	}
}

// numbered is a name of its own for each number; rising as they do.
func numbered(n int) string {
	return "n" + strconv.Itoa(10000+n)
}

// P7.1, P7.2, P7.3
func TestNames(t *testing.T) {
	s := stored(t, 40)
	wantNames(t, s)
	add(t, s, 2, "b", "a", "\xff", "A", "ab", "é", "a b", "-")
	wantNames(t, s, "-", "A", "a", "a b", "ab", "b", "é", "\xff")
	wantFound(t, s, "b", 2)
	wantFound(t, s, "-", 9)
	for _, name := range []string{"B", "a ", " a", "aa", "\xfe", "a\xff", "...", "b2"} {
		wantGone(t, s, name)
	}
	drop(t, s, 3, "a")
	wantGone(t, s, "a")
	wantNames(t, s, "-", "A", "a b", "ab", "b", "é", "\xff")
	wantFound(t, s, "ab", 6)
	add(t, s, 300, "a")
	wantFound(t, s, "a", 300)
}

// P7.1: one inode may have many names; the numbers go as far as there may be inodes, also past those of the store.
func TestNumbers(t *testing.T) {
	s := stored(t, 40)
	for n, i := range []int{1, 2, 2, 2, 15, 16, 255, 256, 257, api.MaxInodes - 1} {
		add(t, s, i, numbered(n))
		wantFound(t, s, numbered(n), i)
	}
	wantStill(t, "Add", s, func() {
		for _, i := range []int{0, -1, api.MaxInodes, api.MaxInodes + 1, 1 << 32, 1<<32 + 1, math.MaxInt, math.MinInt} {
			wantError(t, "Add", Add(s, 1, "x", i), api.ErrRange)
		}
	})
	wantGone(t, s, "x")
}

// P7.1: the shortest and the longest name, and what is none.
func TestNamesThatMayBe(t *testing.T) {
	s := stored(t, 40)
	long := strings.Repeat("l", api.MaxName)
	add(t, s, 2, "x", long, long[:58], "...")
	wantFound(t, s, long, 3)
	wantFound(t, s, long[:58], 4)
	wantNames(t, s, "...", long[:58], long, "x")
	wantStill(t, "no name", s, func() {
		for _, name := range []string{"", ".", "..", "/", "a/b", "x\x00", "\x00", long + "l", strings.Repeat("l", 4096)} {
			if i, e := Find(s, 1, name); i != 0 || e != api.ErrName {
				t.Errorf("Find(%q): %d, error %d", name, i, e)
			}
			wantError(t, "Add of "+name, Add(s, 1, name, 2), api.ErrName)
			if i, e := Drop(s, 1, name); i != 0 || e != api.ErrName {
				t.Errorf("Drop(%q): %d, error %d", name, i, e)
			}
		}
	})
}

// P7.1
func TestKnown(t *testing.T) {
	s := stored(t, 40)
	add(t, s, 2, "a", "b")
	wantStill(t, "known", s, func() {
		wantError(t, "Add", Add(s, 1, "a", 2), api.ErrKnown)
		wantError(t, "Add", Add(s, 1, "b", 7), api.ErrKnown)
	})
	drop(t, s, 2, "a")
	wantError(t, "Add behind a free entry", Add(s, 1, "b", 7), api.ErrKnown)
	wantFound(t, s, "b", 3)
}

// Chapter 7, 'Words', and P7.1: each byte of the entries, in the order in which they are added.
func TestEntries(t *testing.T) {
	s := stored(t, 40)
	long := strings.Repeat("z", api.MaxName)
	add(t, s, 2, "b")
	wantBytes(t, s, bytesOf(2, "b"))
	add(t, s, 511, long)
	add(t, s, 258, "a")
	wantBytes(t, s, bytesOf(2, "b"), bytesOf(511, long), bytesOf(258, "a"))
}

// P7.1: a name is added in the first free entry, or behind the last one; what is dropped leaves noughts.
func TestFirstFreeEntry(t *testing.T) {
	s := stored(t, 40)
	add(t, s, 2, "a", "b", "c", "d")
	drop(t, s, 2, "a")
	wantBytes(t, s, bytesOf(0, ""), bytesOf(3, "b"), bytesOf(4, "c"), bytesOf(5, "d"))
	drop(t, s, 4, "c")
	wantBytes(t, s, bytesOf(0, ""), bytesOf(3, "b"), bytesOf(0, ""), bytesOf(5, "d"))
	add(t, s, 6, "e")
	wantBytes(t, s, bytesOf(6, "e"), bytesOf(3, "b"), bytesOf(0, ""), bytesOf(5, "d"))
	add(t, s, 7, "f", "g")
	wantBytes(t, s, bytesOf(6, "e"), bytesOf(3, "b"), bytesOf(7, "f"), bytesOf(5, "d"), bytesOf(8, "g"))
	wantNames(t, s, "b", "d", "e", "f", "g")
}

// Chapter 7, 'Words', and P7.1: a directory without names has no bytes, whichever name goes last.
func TestLastName(t *testing.T) {
	for last := range 20 {
		s := stored(t, 40)
		free, _ := s.Map().Free()
		for n := range 20 {
			add(t, s, 1+n%15, numbered(n))
		}
		for n := range 20 {
			if n != last {
				drop(t, s, 1+n%15, numbered(n))
			}
		}
		wantNames(t, s, numbered(last))
		drop(t, s, 1+last%15, numbered(last))
		wantBytes(t, s)
		wantNames(t, s)
		if p, _ := s.Map().Free(); p != free {
			t.Errorf("%d pages are free, want %d", p, free)
		}
		add(t, s, 5, "anew")
		wantBytes(t, s, bytesOf(5, "anew"))
	}
}

// P7.1, P7.2, P2: errors of the directory come first, in Get's order, then ErrDir, ErrName, ErrRange, ErrKnown.
func TestErrorsInOrder(t *testing.T) {
	s := stored(t, 40)
	add(t, s, 2, "a")
	for i, want := range map[int]api.Errno{
		0: api.ErrRange, -1: api.ErrRange, 16: api.ErrRange, math.MaxInt: api.ErrRange, math.MinInt: api.ErrRange,
		4: api.ErrNone, 15: api.ErrNone, 2: api.ErrDir, 3: api.ErrDir,
	} {
		wantStill(t, "no directory", s, func() {
			for _, name := range []string{"a", "x", "", "/"} {
				wantError(t, "Find", second(Find(s, i, name)), want)
				wantError(t, "Add", Add(s, i, name, 2), want)
				wantError(t, "Add", Add(s, i, name, 0), want)
				wantError(t, "Drop", second(Drop(s, i, name)), want)
			}
			names, e := List(s, i)
			if len(names) != 0 || e != want {
				t.Errorf("List: %q, error %d, want %d", names, e, want)
			}
			empty, e := Empty(s, i)
			if empty || e != want {
				t.Errorf("Empty: %v, error %d, want %d", empty, e, want)
			}
		})
	}
	wantError(t, "no name and a wrong number", Add(s, 1, "", 0), api.ErrName)
	wantError(t, "a wrong number of a known name", Add(s, 1, "a", 0), api.ErrRange)
	wantError(t, "a wrong number", Add(s, 1, "b", api.MaxInodes), api.ErrRange)
}

// P7.3: two directories of one store do not know of each other.
func TestTwoDirectories(t *testing.T) {
	s := stored(t, 40)
	other, e := s.Make(api.Dir, 493)
	wantError(t, "Make", e, api.OK)
	for n := range 30 {
		wantError(t, "Add", Add(s, 1, numbered(n), 2), api.OK)
		wantError(t, "Add", Add(s, other, numbered(29-n), 3), api.OK)
	}
	for n := range 30 {
		drop(t, s, 2, numbered(n))
		if i, e := Find(s, other, numbered(n)); i != 3 || e != api.OK {
			t.Errorf("Find: %d, error %d", i, e)
		}
	}
	if names, e := List(s, other); len(names) != 30 || e != api.OK {
		t.Errorf("List: %q, error %d", names, e)
	}
}
