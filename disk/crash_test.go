package disk

import (
	"math"
	"testing"

	"dunnage/api"
)

// lived is a disk of three sectors with a history: two flushed writes, and three that wait.
func lived(t *testing.T) *Disk {
	t.Helper()
	d := loaded(t, 1, 2, 3)
	put(t, d, 1, 4)
	put(t, d, 1, 5)
	wantError(t, "Flush", d.Flush(), api.OK)
	put(t, d, 2, 6)
	put(t, d, 0, 7)
	put(t, d, 2, 8)
	return d
}

// P1.4
func TestCut(t *testing.T) {
	d := lived(t)
	for k, c := range []struct {
		image, safe     [][]byte
		sectors, writes []int
	}{
		{fulls(1, 2, 3), fulls(1, 2, 3), nil, nil},
		{fulls(1, 4, 3), fulls(1, 2, 3), []int{1}, []int{1}},
		{fulls(1, 5, 3), fulls(1, 2, 3), []int{1}, []int{2}},
		{fulls(1, 5, 3), fulls(1, 5, 3), nil, nil},
		{fulls(1, 5, 6), fulls(1, 5, 3), []int{2}, []int{1}},
		{fulls(7, 5, 6), fulls(1, 5, 3), []int{0, 2}, []int{1, 1}},
		{fulls(7, 5, 8), fulls(1, 5, 3), []int{0, 2}, []int{1, 2}},
	} {
		cut, e := d.Cut(k)
		wantError(t, "Cut", e, api.OK)
		wantDisk(t, "Cut", cut, c.image, c.safe, k)
		wantWaiting(t, "Cut", cut, c.sectors, c.writes)
	}
	wantDisk(t, "behind all cuts", d, fulls(7, 5, 8), fulls(1, 5, 3), 6)
	for _, k := range []int{-1, 7, math.MinInt, math.MaxInt} {
		cut, e := d.Cut(k)
		wantError(t, "Cut", e, api.ErrRange)
		if cut != nil {
			t.Errorf("Cut(%d): a disk beside an error", k)
		}
	}
}

// P1.4: a cut is a disk like any other, with a history of its own.
func TestCutGoesOn(t *testing.T) {
	d := lived(t)
	cut, _ := d.Cut(2)
	put(t, cut, 0, 9)
	wantDisk(t, "the cut", cut, fulls(9, 5, 3), fulls(1, 2, 3), 3)
	wantDisk(t, "the disk", d, fulls(7, 5, 8), fulls(1, 5, 3), 6)
	third, _ := d.Cut(3)
	wantDisk(t, "the disk's third op", third, fulls(1, 5, 3), fulls(1, 5, 3), 3)
	third, _ = cut.Cut(3)
	wantDisk(t, "the cut's third op", third, fulls(9, 5, 3), fulls(1, 2, 3), 3)
	one, e := cut.Cut(1)
	wantError(t, "Cut of a cut", e, api.OK)
	wantDisk(t, "Cut of a cut", one, fulls(1, 4, 3), fulls(1, 2, 3), 1)
	_, e = one.Cut(2)
	wantError(t, "Cut past a cut's ops", e, api.ErrRange)
}

// P1.4
func TestCrash(t *testing.T) {
	d := lived(t) // sector 0 waits with one write, sector 2 with two
	for _, c := range []struct {
		keep  []int
		image [][]byte
	}{
		{nil, fulls(1, 5, 3)},
		{[]int{}, fulls(1, 5, 3)},
		{[]int{0}, fulls(1, 5, 3)},
		{[]int{1}, fulls(7, 5, 3)},
		{[]int{0, 0}, fulls(1, 5, 3)},
		{[]int{0, 1}, fulls(1, 5, 6)},
		{[]int{0, 2}, fulls(1, 5, 8)},
		{[]int{1, 1}, fulls(7, 5, 6)},
		{[]int{1, 2}, fulls(7, 5, 8)},
	} {
		left, e := d.Crash(c.keep...)
		wantError(t, "Crash", e, api.OK)
		wantDisk(t, "Crash", left, c.image, c.image, 0)
		wantWaiting(t, "Crash", left, nil, nil)
	}
	wantDisk(t, "behind all crashes", d, fulls(7, 5, 8), fulls(1, 5, 3), 6)
}

// P1.4
func TestCrashErrors(t *testing.T) {
	d := lived(t)
	for _, keep := range [][]int{
		{-1}, {2}, {0, -1}, {0, 3}, {2, 3}, {0, 0, 0}, {1, 2, 0}, {math.MinInt}, {math.MaxInt}, {0, math.MaxInt},
	} {
		left, e := d.Crash(keep...)
		wantError(t, "Crash", e, api.ErrRange)
		if left != nil {
			t.Errorf("Crash(%v): a disk beside an error", keep)
		}
	}
	still := loaded(t, 1)
	_, e := still.Crash(0)
	wantError(t, "a number where nothing waits", e, api.ErrRange)
	left, e := still.Crash()
	wantError(t, "Crash where nothing waits", e, api.OK)
	wantDisk(t, "Crash where nothing waits", left, fulls(1), fulls(1), 0)
}

// P1.4: what a crash left is written on, and its history begins with it.
func TestCrashGoesOn(t *testing.T) {
	d := lived(t)
	left, _ := d.Crash(1, 1)
	put(t, left, 1, 9)
	wantDisk(t, "written", left, fulls(7, 9, 6), fulls(7, 5, 6), 1)
	cut, e := left.Cut(0)
	wantError(t, "Cut", e, api.OK)
	wantDisk(t, "its beginning", cut, fulls(7, 5, 6), fulls(7, 5, 6), 0)
	wantDisk(t, "the disk that crashed", d, fulls(7, 5, 8), fulls(1, 5, 3), 6)
}

// P1.5, P1.6
func TestCrashOfNoneAndOfAll(t *testing.T) {
	d := lived(t)
	for k := range d.Ops() + 1 {
		cut, _ := d.Cut(k)
		_, writes := cut.Waiting()
		none, _ := cut.Crash()
		all, _ := cut.Crash(writes...)
		if !alike(none.Image(), cut.Safe()) {
			t.Errorf("behind %d ops: Crash with no numbers is not Safe", k)
		}
		if !alike(all.Image(), cut.Image()) {
			t.Errorf("behind %d ops: Crash with all writes is not Image", k)
		}
		before := cut.Image()
		cut.Flush()
		if !alike(cut.Safe(), cut.Image()) || !alike(cut.Image(), before) {
			t.Errorf("behind %d ops and a flush: Safe is not Image", k)
		}
	}
}

// P1.7
func TestCrashThatKeepsMore(t *testing.T) {
	d := loaded(t, 0, 0, 0, 0)
	for i := range 12 {
		put(t, d, (5*i)%4, i+1)
	}
	sectors, writes := d.Waiting()
	for i, n := range sectors {
		keep := []int{1, 2, 0, 3}
		for k := range writes[i] {
			keep[i] = k
			less, _ := d.Crash(keep...)
			keep[i] = k + 1
			more, _ := d.Crash(keep...)
			a, b := less.Image(), more.Image()
			if a[n][0] == b[n][0] {
				t.Errorf("sector %d is the same with %d and %d writes", n, k, k+1)
			}
			a[n] = b[n]
			if !alike(a, b) {
				t.Errorf("one write more of sector %d changes another one", n)
			}
		}
	}
}

// P1.4, P4
func TestFork(t *testing.T) {
	d := lived(t)
	f := d.Fork()
	if f == d {
		t.Fatal("a Fork is the disk itself")
	}
	wantDisk(t, "Fork", f, fulls(7, 5, 8), fulls(1, 5, 3), 6)
	wantWaiting(t, "Fork", f, []int{0, 2}, []int{1, 2})
	put(t, d, 2, 9) // both note a seventh op, and a third write of sector 2
	put(t, f, 2, 10)
	wantDisk(t, "the disk", d, fulls(7, 5, 9), fulls(1, 5, 3), 7)
	wantDisk(t, "the Fork", f, fulls(7, 5, 10), fulls(1, 5, 3), 7)
	wantError(t, "Flush", f.Flush(), api.OK)
	wantDisk(t, "the disk behind the Fork's flush", d, fulls(7, 5, 9), fulls(1, 5, 3), 7)
	wantWaiting(t, "the disk behind the Fork's flush", d, []int{0, 2}, []int{1, 3})
	put(t, d, 1, 11)
	wantError(t, "Flush", d.Flush(), api.OK)
	wantDisk(t, "the Fork behind the disk's flush", f, fulls(7, 5, 10), fulls(7, 5, 10), 8)
	cut, _ := d.Cut(7)
	wantDisk(t, "the disk's seventh op", cut, fulls(7, 5, 9), fulls(1, 5, 3), 7)
	cut, _ = f.Cut(7)
	wantDisk(t, "the Fork's seventh op", cut, fulls(7, 5, 10), fulls(1, 5, 3), 7)
}

// P4: many Forks of one disk at many times, each going its own way.
func TestForksOfForks(t *testing.T) {
	d := loaded(t, 0)
	forks := []*Disk{d}
	for i := range 6 {
		for _, f := range forks {
			forks = append(forks, f.Fork())
		}
		for j, f := range forks {
			put(t, f, 0, 64*(i%4)+j%64)
		}
	}
	for j, f := range forks {
		if b, _ := f.Read(0); int(b[0]) != 64*(5%4)+j%64 {
			t.Errorf("Fork %d has the byte %d", j, b[0])
		}
	}
}
