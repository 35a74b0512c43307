package alloc

import (
	"bytes"
	"math"
	"slices"
	"testing"

	"dunnage/api"
)

// P5.2, P5.3, P5.4: chapter 5's example, and what comes behind it.
func TestPages(t *testing.T) {
	m := made(t, cacheOf(t, 40, 50), 8)
	takePage(t, m, 4)
	takePage(t, m, 5)
	wantFree(t, "two pages", m, 34, 7)
	takePage(t, m, 6)
	wantError(t, "GivePage", m.GivePage(5), api.OK)
	wantError(t, "GivePage", m.GivePage(4), api.OK)
	if m.Used(4) || m.Used(5) || !m.Used(6) || m.Used(7) {
		t.Error("others are taken")
	}
	wantFree(t, "one page", m, 35, 7)
	takePage(t, m, 4)
	takePage(t, m, 5)
	takePage(t, m, 7)
	wantPage(t, m.Cache(), 2, begun(0xff))
	takePage(t, m, 8)
	wantPage(t, m.Cache(), 2, begun(0xff, 1))
	wantPage(t, m.Cache(), 1, begun(1))
}

// P5.2: a page that is taken is 0 everywhere, whatever lay there, or was written while it was somebody's.
func TestPageOfNoughts(t *testing.T) {
	m := made(t, cacheOf(t, 9, 50), 8)
	c := m.Cache()
	takePage(t, m, 4)
	wantPage(t, c, 4, full(0))
	wantPage(t, c, 5, full(dirt))
	wantError(t, "Write", c.Write(4, full(7)...), api.OK)
	commit(t, m)
	wantError(t, "GivePage", m.GivePage(4), api.OK)
	wantPage(t, c, 4, full(7))
	takePage(t, m, 4)
	wantPage(t, c, 4, full(0))
	commit(t, m)
	wantPage(t, c, 4, full(0))
}

// P5.2, P5.5: the last free page, and one more.
func TestLastPage(t *testing.T) {
	m := made(t, cacheOf(t, 30, 50), 16)
	for n := 5; n < 30; n++ {
		takePage(t, m, n)
		wantFree(t, "Page", m, 29-n, 15)
	}
	wantStill(t, "one more", m, func() {
		n, e := m.Page()
		wantNone(t, "one more", n, e, api.ErrFull)
	})
	wantError(t, "GivePage", m.GivePage(29), api.OK)
	takePage(t, m, 29)
	wantError(t, "GivePage", m.GivePage(17), api.OK)
	takePage(t, m, 17)
	wantStill(t, "one more", m, func() {
		n, e := m.Page()
		wantNone(t, "one more", n, e, api.ErrFull)
	})
	takeInode(t, m, 1)
}

// P5.2, P5.5: all inodes, and one more; also of the greatest number of them.
func TestInodes(t *testing.T) {
	for _, inodes := range []int{8, 16, api.MaxInodes} {
		m := made(t, cacheOf(t, 80, 70), inodes)
		for i := 1; i < inodes; i++ {
			if m.UsedInode(i) {
				t.Errorf("inode %d is taken", i)
			}
			takeInode(t, m, i)
			wantFree(t, "Inode", m, 80-m.First(), inodes-1-i)
		}
		wantPage(t, m.Cache(), 1, begun(bytes.Repeat([]byte{0xff}, inodes/8)...))
		wantStill(t, "one more", m, func() {
			i, e := m.Inode()
			wantNone(t, "one more", i, e, api.ErrFull)
		})
		wantError(t, "GiveInode", m.GiveInode(inodes-1), api.OK)
		wantError(t, "GiveInode", m.GiveInode(3), api.OK)
		wantFree(t, "GiveInode", m, 80-m.First(), 2)
		takeInode(t, m, 3)
		takeInode(t, m, inodes-1)
		takePage(t, m, m.First())
	}
}

// P5.2: an inode that is taken is 0 everywhere, and none beside it changes.
func TestInodeOfNoughts(t *testing.T) {
	m := kept(t, 40, 16, 6)
	c := m.Cache()
	wantError(t, "Write", c.Write(3, full(7)...), api.OK)
	commit(t, m)
	takeInode(t, m, 1)
	want := full(7)
	clear(want[64:128])
	wantPage(t, c, 3, want)
	takeInode(t, m, 2)
	clear(want[128:192])
	wantPage(t, c, 3, want)
	wantPage(t, c, 4, full(0))
}

// P5.2, P2: numbers that can't be given back, and that are free.
func TestGiveWrongOnes(t *testing.T) {
	m := kept(t, 40, 16, 6)
	takePage(t, m, 5)
	takeInode(t, m, 1)
	for _, n := range []int{0, 1, 2, 3, 4, 40, 41, 4096, -1, -5, math.MinInt, math.MaxInt} {
		wantStill(t, "GivePage", m, func() { wantError(t, "GivePage", m.GivePage(n), api.ErrRange) })
	}
	for _, i := range []int{0, 16, 17, 512, -1, -2, math.MinInt, math.MaxInt} {
		wantStill(t, "GiveInode", m, func() { wantError(t, "GiveInode", m.GiveInode(i), api.ErrRange) })
	}
	for _, n := range []int{6, 39} {
		wantStill(t, "GivePage", m, func() { wantError(t, "GivePage", m.GivePage(n), api.ErrNone) })
	}
	for _, i := range []int{2, 15} {
		wantStill(t, "GiveInode", m, func() { wantError(t, "GiveInode", m.GiveInode(i), api.ErrNone) })
	}
	wantError(t, "GivePage", m.GivePage(5), api.OK)
	wantError(t, "GivePage twice", m.GivePage(5), api.ErrNone)
	wantError(t, "GiveInode", m.GiveInode(1), api.OK)
	wantError(t, "GiveInode twice", m.GiveInode(1), api.ErrNone)
	wantFree(t, "all given back", m, 35, 15)
}

// roomless is a map with pages 5 and 6 and inode 1 taken, whose cache has so much room left.
func roomless(t *testing.T, room int) *Map {
	t.Helper()
	m := kept(t, 60, 16, 10)
	takePage(t, m, 5)
	takePage(t, m, 6)
	takeInode(t, m, 1)
	commit(t, m)
	for n := 59; m.Cache().Room() > room; n-- {
		wantError(t, "Write", m.Cache().Write(n, full(n)...), api.OK)
	}
	return m
}

// P5.2, P2: a cache without room, and with just enough.
func TestRoomForAPage(t *testing.T) {
	for room := range 2 {
		m := roomless(t, room)
		wantStill(t, "Page", m, func() {
			n, e := m.Page()
			wantNone(t, "Page", n, e, api.ErrFull)
		})
	}
	m := roomless(t, 2)
	takePage(t, m, 7)
	if m.Cache().Room() != 0 {
		t.Error("room is left")
	}
	wantStill(t, "Page", m, func() {
		n, e := m.Page() // the bits are dirty already, but not page 8
		wantNone(t, "Page", n, e, api.ErrFull)
	})
	wantError(t, "GivePage", m.GivePage(7), api.OK)
	takePage(t, m, 7) // both are dirty already
	wantPage(t, m.Cache(), 7, full(0))

	m = roomless(t, 1)
	wantError(t, "GivePage", m.GivePage(5), api.OK) // which lets the bits be dirty
	wantStill(t, "Page", m, func() {
		n, e := m.Page()
		wantNone(t, "Page", n, e, api.ErrFull)
	})
	m = roomless(t, 3)
	wantError(t, "GivePage", m.GivePage(6), api.OK)
	wantError(t, "Write", m.Cache().Write(20, full(1)...), api.OK)
	takePage(t, m, 6)
}

// P5.2, P2
func TestRoomForAnInode(t *testing.T) {
	m := roomless(t, 0)
	wantStill(t, "Inode", m, func() {
		i, e := m.Inode()
		wantNone(t, "Inode", i, e, api.ErrFull)
	})
	m = roomless(t, 1)
	takeInode(t, m, 2)
	takeInode(t, m, 3)
	wantError(t, "GiveInode", m.GiveInode(2), api.OK)

	m = kept(t, 60, 16, 10)
	wantError(t, "Write", m.Cache().Write(3, full(7)...), api.OK)
	commit(t, m)
	for n := 50; n < 59; n++ {
		wantError(t, "Write", m.Cache().Write(n, full(n)...), api.OK)
	}
	wantStill(t, "an inode that is not empty", m, func() {
		i, e := m.Inode()
		wantNone(t, "an inode that is not empty", i, e, api.ErrFull)
	})
}

// P5.2, P2: what is wrong with a number is told ahead of what is wrong with the room.
func TestRoomToGive(t *testing.T) {
	m := roomless(t, 0)
	wantStill(t, "no room", m, func() {
		wantError(t, "GivePage", m.GivePage(5), api.ErrFull)
		wantError(t, "GivePage of a free one", m.GivePage(9), api.ErrNone)
		wantError(t, "GivePage of none", m.GivePage(60), api.ErrRange)
		wantError(t, "GiveInode", m.GiveInode(1), api.ErrFull)
		wantError(t, "GiveInode of a free one", m.GiveInode(2), api.ErrNone)
		wantError(t, "GiveInode of none", m.GiveInode(16), api.ErrRange)
	})
	m = roomless(t, 1)
	wantError(t, "GivePage", m.GivePage(5), api.OK)
	wantError(t, "GivePage", m.GivePage(6), api.OK)
	wantError(t, "GiveInode", m.GiveInode(1), api.ErrFull)
	m = roomless(t, 1)
	wantError(t, "GiveInode", m.GiveInode(1), api.OK)
	wantError(t, "GivePage", m.GivePage(5), api.ErrFull)
}

// P5.3: what is always taken, what is not, and what there is not.
func TestUsed(t *testing.T) {
	m := kept(t, 40, 16, 10)
	takePage(t, m, 5)
	takeInode(t, m, 1)
	for n := range 40 {
		if m.Used(n) != (n <= 5) {
			t.Errorf("Used(%d): %v", n, m.Used(n))
		}
	}
	for i := range 16 {
		if m.UsedInode(i) != (i <= 1) {
			t.Errorf("UsedInode(%d): %v", i, m.UsedInode(i))
		}
	}
	for _, n := range []int{-1, -8, 40, 41, 512, 4096, 1 << 40, math.MinInt, math.MaxInt} {
		if m.Used(n) || m.UsedInode(n) {
			t.Errorf("%d is taken", n)
		}
	}
	if m.UsedInode(16) {
		t.Error("inode 16 is taken")
	}
}

// P5.3
func TestTable(t *testing.T) {
	for _, inodes := range []int{8, 24, api.MaxInodes} {
		m := made(t, cacheOf(t, 80, 70), inodes)
		for i := range inodes {
			page, at, e := m.Table(i)
			if page != 3+i/8 || at != 64*(i%8) || e != api.OK || page >= m.First() {
				t.Errorf("Table(%d): %d, %d, error %d", i, page, at, e)
			}
		}
		for _, i := range []int{-1, inodes, inodes + 1, math.MinInt, math.MaxInt} {
			if page, at, e := m.Table(i); page != 0 || at != 0 || e != api.ErrRange {
				t.Errorf("Table(%d): %d, %d, error %d", i, page, at, e)
			}
		}
	}
}

// P5.3: what is asked writes nothing.
func TestAskingWritesNothing(t *testing.T) {
	m := kept(t, 40, 16, 10)
	m.Free()
	m.Used(7)
	m.UsedInode(7)
	m.Table(7)
	opened(t, m.Cache())
	if dirty := m.Cache().Dirty(); !slices.Equal(dirty, nil) {
		t.Errorf("dirty: %v", dirty)
	}
}
