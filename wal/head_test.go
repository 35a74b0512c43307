package wal

import (
	"testing"

	"dunnage/api"
	"dunnage/disk"
)

// P3.1: heads with no pages. Nothing is brought home, so nothing is done.
func TestHeadsOfNoPages(t *testing.T) {
	for _, head := range [][]byte{begun(), begun(0x44, 0x4e), begun(0x44, 0x4e, 0, 0)} {
		d := headed(t, 9, head)
		l := opened(t, d, 3)
		if l.Recovered() != 0 || l.Disk().Ops() != 0 {
			t.Errorf("%d pages recovered by %d ops", l.Recovered(), l.Disk().Ops())
		}
		wantImage(t, "no pages", l.Disk(), d.Image())
		wantPages(t, "no pages", l, 4, 5, 6, 7, 8)
	}
}

// P3.1: the log's sectors 1 to 3 are full of 1 to 3, the homes of 4 to 8.
func TestHeadsWithPages(t *testing.T) {
	for _, c := range []struct {
		head  []byte
		count int
		pages []int
	}{
		{begun(0x44, 0x4e, 0, 1, 0, 0), 1, []int{1, 5, 6, 7, 8}},
		{begun(0x44, 0x4e, 0, 1, 0, 4), 1, []int{4, 5, 6, 7, 1}},
		{begun(0x44, 0x4e, 0, 2, 0, 1, 0, 3), 2, []int{4, 1, 6, 2, 8}},
		{begun(0x44, 0x4e, 0, 3, 0, 0, 0, 1, 0, 2), 3, []int{1, 2, 3, 7, 8}},
		{begun(0x44, 0x4e, 0, 3, 0, 0, 0, 3, 0, 4), 3, []int{1, 5, 6, 2, 3}},
	} {
		d := headed(t, 9, c.head)
		l := opened(t, d, 3)
		if l.Recovered() != c.count {
			t.Errorf("%d pages recovered, want %d", l.Recovered(), c.count)
		}
		wantPages(t, "brought home", l, c.pages...)
		image := [][]byte{begun(0x44, 0x4e), full(1), full(2), full(3)}
		for _, x := range c.pages {
			image = append(image, full(x))
		}
		wantImage(t, "brought home", l.Disk(), image)
		if ops := l.Disk().Ops(); ops != c.count+3 {
			t.Errorf("%d pages are brought home by %d ops", c.count, ops)
		}
		if s, _ := l.Disk().Waiting(); len(s) != 0 {
			t.Errorf("sectors %v wait", s)
		}
		wantImage(t, "the disk that was handed in", d, headed(t, 9, c.head).Image())
		wantError(t, "Commit", l.Commit(page(2, 50)), api.OK)
		if l.Recovered() != c.count {
			t.Error("a Commit changes what Open brought home")
		}
		if again := opened(t, l.Disk(), 3); again.Recovered() != 0 {
			t.Error("pages are brought home twice")
		}
	}
}

// P3.1: numbers of two bytes that are not 0, and COUNT as great as a group may be, and one more.
func TestHeadOfTheMost(t *testing.T) {
	const size, last = 150, 3944 // the last page
	first := last - 100
	head := begun(0x44, 0x4e, 0, 100)
	for i := range 100 {
		head[4+2*i], head[5+2*i] = byte((first+i)/256), byte((first+i)%256)
	}
	l := opened(t, headed(t, api.MaxSectors, head), size)
	if l.Recovered() != 100 {
		t.Fatalf("%d pages recovered", l.Recovered())
	}
	for i := range 100 {
		if b, _ := l.Read(first + i); b[0] != byte(i+1) {
			t.Errorf("page %d is %d", first+i, b[0])
		}
	}
	for _, n := range []int{first - 1, last} {
		if b, _ := l.Read(n); b[0] != byte((size+1+n)%256) {
			t.Errorf("page %d has changed, which the head does not name", n)
		}
	}
	head[3], head[204], head[205] = 101, byte(last/256), byte(last%256)
	wantNoHead(t, "COUNT above MaxGroup", head, api.MaxSectors, size)
}

func wantNoHead(t *testing.T, what string, head []byte, sectors, size int) {
	t.Helper()
	d := headed(t, sectors, head)
	l, e := Open(d, size)
	wantError(t, what, e, api.ErrBroken)
	if l != nil {
		t.Errorf("%s: a log beside an error", what)
	}
	if d.Ops() != 0 || !disk.Same(d, headed(t, sectors, head)) {
		t.Errorf("%s: the disk has changed", what)
	}
}

// P3.1: nine sectors, size 3: pages 0 to 4.
func TestHeadsThatAreNone(t *testing.T) {
	for _, c := range []struct {
		name string
		head []byte
	}{
		{"full", full(9)},
		{"full of the mark's first byte", full(0x44)},
		{"no mark, one page", begun(0, 0, 0, 1, 0, 2)},
		{"no mark, COUNT 0, a number", begun(0, 0, 0, 0, 0, 1)},
		{"half a mark", begun(0x44)},
		{"the other half", begun(0, 0x4e)},
		{"the mark turned", begun(0x4e, 0x44)},
		{"the mark in small letters", begun(0x64, 0x6e)},
		{"the mark as decimal digits", begun(44, 0x4e)},
		{"the mark a byte later", begun(0, 0x44, 0x4e)},
		{"COUNT above Capacity", begun(0x44, 0x4e, 0, 4, 0, 0, 0, 1, 0, 2, 0, 3)},
		{"COUNT with its bytes turned", begun(0x44, 0x4e, 1, 0, 0, 1)},
		{"the greatest COUNT", begun(0x44, 0x4e, 255, 255)},
		{"the same number twice", begun(0x44, 0x4e, 0, 2, 0, 1, 0, 1)},
		{"the number 0 twice", begun(0x44, 0x4e, 0, 2)},
		{"falling", begun(0x44, 0x4e, 0, 2, 0, 2, 0, 1)},
		{"rising, and falling", begun(0x44, 0x4e, 0, 3, 0, 1, 0, 3, 0, 2)},
		{"of no page", begun(0x44, 0x4e, 0, 1, 0, 5)},
		{"of no page at the end", begun(0x44, 0x4e, 0, 3, 0, 3, 0, 4, 0, 5)},
		{"a number with its bytes turned", begun(0x44, 0x4e, 0, 1, 1, 0)},
		{"the greatest number", begun(0x44, 0x4e, 0, 1, 255, 255)},
		{"more numbers than COUNT", begun(0x44, 0x4e, 0, 1, 0, 1, 0, 2)},
		{"a number with COUNT 0", begun(0x44, 0x4e, 0, 0, 0, 1)},
	} {
		wantNoHead(t, c.name, c.head, 9, 3)
	}
}

// P3.1: each byte that must be 0, also in a head that is 0 everywhere else.
func TestHeadsWithSomethingElse(t *testing.T) {
	for at := 8; at < api.SectorBytes; at++ {
		for _, x := range []byte{1, 0x44, 255} {
			head := begun(0x44, 0x4e, 0, 2, 0, 1, 0, 3)
			head[at] = x
			wantNoHead(t, "a byte behind the numbers", head, 9, 3)
		}
	}
	for at := range api.SectorBytes {
		head := begun()
		head[at] = 1
		wantNoHead(t, "one byte alone", head, 9, 3)
		if at >= 4 {
			head[0], head[1] = 0x44, 0x4e
			wantNoHead(t, "one byte beside the mark", head, 9, 3)
		}
	}
}

// P3.1: which numbers are of a page hangs on the size.
func TestHeadsBySize(t *testing.T) {
	head := begun(0x44, 0x4e, 0, 2, 0, 1, 0, 3)
	for size, want := range []api.Errno{1: api.ErrBroken, 2: api.OK, 3: api.OK, 4: api.OK, 5: api.ErrBroken, 6: api.ErrBroken, 7: api.ErrBroken, 8: api.ErrRange} {
		if size > 0 {
			wantError(t, "Open", second(Open(headed(t, 9, head), size)), want)
		}
	}
}
