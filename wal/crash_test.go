package wal

import (
	"bytes"
	"slices"
	"testing"

	"dunnage/api"
	"dunnage/crashes"
	"dunnage/disk"
)

// 'A group is written': each write and each flush, in the document's order.
func TestOpsOfACommit(t *testing.T) {
	l := opened(t, headed(t, 8, begun()), 3)
	wantError(t, "Commit", l.Commit(page(3, 30), page(0, 20)), api.OK)
	head := begun(0x44, 0x4e, 0, 2, 0, 0, 0, 3)
	none := begun(0x44, 0x4e, 0, 0)
	wantOps(t, l.Disk(), []step{
		{1, full(20)}, {2, full(30)}, {},
		{0, head}, {},
		{4, full(20)}, {7, full(30)}, {},
		{0, none}, {},
	})
}

// P3.1: what Open does to bring pages home.
func TestOpsOfAnOpen(t *testing.T) {
	d := headed(t, 8, begun(0x44, 0x4e, 0, 2, 0, 1, 0, 2))
	l := opened(t, d, 3)
	wantOps(t, l.Disk(), []step{{5, full(1)}, {6, full(2)}, {}, {0, begun(0x44, 0x4e)}, {}})
}

// step is a write, or, without bytes, a flush.
type step struct {
	sector int
	b      []byte
}

func wantOps(t *testing.T, d *disk.Disk, steps []step) {
	t.Helper()
	if d.Ops() != len(steps) {
		t.Fatalf("%d ops, want %d", d.Ops(), len(steps))
	}
	want, _ := d.Cut(0)
	for i, s := range steps {
		if s.b == nil {
			want.Flush()
		} else {
			want.Write(s.sector, s.b...)
		}
		got, _ := d.Cut(i + 1)
		a, b := got.Waiting()
		x, y := want.Waiting()
		if !disk.Same(got, want) || !slices.EqualFunc(got.Safe(), want.Safe(), bytes.Equal) || !slices.Equal(a, x) || !slices.Equal(b, y) {
			t.Fatalf("op %d is another one", i+1)
		}
	}
}

// P3.3: behind each op, whatever of what waits is kept. The log has an older group's pages in its sectors.
func TestCrashWithinACommit(t *testing.T) {
	for n := 1; n <= 4; n++ {
		l := opened(t, headed(t, 11, begun()), 4)
		wantError(t, "Commit", l.Commit(page(0, 90), page(1, 91), page(2, 92), page(3, 93)), api.OK)
		before, from := told(t, l), l.Disk().Ops()
		var pages []api.Page
		for i := range n {
			pages = append(pages, page(5-i, 100+i))
		}
		wantError(t, "Commit", l.Commit(pages...), api.OK)
		after := told(t, l)
		if slices.Equal(before, after) {
			t.Fatal("a Commit without a change tells nothing")
		}
		head := from + n + 2 // the op that writes the head
		for k, left := range crashes.Behind(l.Disk(), from) {
			got := told(t, opened(t, left, 4))
			if !slices.Equal(got, before) && !slices.Equal(got, after) {
				t.Errorf("%d pages, behind op %d: %v", n, k-from, got)
			}
			if k < head && !slices.Equal(got, before) || k > head && !slices.Equal(got, after) {
				t.Errorf("%d pages, behind op %d: a head that is safe, and nothing else, decides", n, k-from)
			}
		}
	}
}

// P3.4: a crash within Open, and one within the Open behind it, and so on.
func TestCrashWithinAnOpen(t *testing.T) {
	first := headed(t, 9, begun(0x44, 0x4e, 0, 3, 0, 0, 0, 2, 0, 3))
	want := []int{1, 5, 2, 3, 8}
	disks := []*disk.Disk{first}
	for range 3 {
		var next []*disk.Disk
		for _, d := range disks {
			l := opened(t, d, 3)
			wantPages(t, "Open behind a crash within Open", l, want...)
			for _, left := range crashes.Behind(l.Disk(), 0) {
				next = append(next, left)
			}
		}
		disks = fewer(next)
	}
}

// fewer are disks without those that are read like one ahead of them.
func fewer(all []*disk.Disk) []*disk.Disk {
	var some []*disk.Disk
	for _, d := range all {
		if !slices.ContainsFunc(some, func(x *disk.Disk) bool { return disk.Same(x, d) }) {
			some = append(some, d)
		}
	}
	return some
}

// P3.3, P3.4: a crash within a Commit, one within the Open behind it, and then a Commit as ever.
func TestCommitBehindCrashes(t *testing.T) {
	l := opened(t, headed(t, 8, begun()), 3)
	wantError(t, "Commit", l.Commit(page(1, 51), page(2, 52), page(0, 50)), api.OK)
	before, after := []int{4, 5, 6, 7}, []int{50, 51, 52, 7}
	var disks []*disk.Disk
	for _, left := range crashes.Behind(l.Disk(), 0) {
		disks = append(disks, left)
	}
	for _, d := range fewer(disks) {
		m := opened(t, d, 3)
		want := told(t, m)
		if !slices.Equal(want, before) && !slices.Equal(want, after) {
			t.Errorf("behind one crash: %v", want)
		}
		for _, left := range crashes.Behind(m.Disk(), 0) {
			again := opened(t, left, 3)
			wantPages(t, "behind two crashes", again, want...)
			wantError(t, "Commit", again.Commit(page(3, 60), page(1, 61)), api.OK)
			wantPages(t, "Commit behind two crashes", again, want[0], 61, want[2], 60)
		}
	}
}

// P3.5
func TestNothingWaitsBehindACommit(t *testing.T) {
	for n := 1; n <= 6; n++ {
		l := opened(t, blank(t, 20), 6)
		var pages []api.Page
		for i := range n {
			pages = append(pages, page(2*i, i+1))
		}
		wantError(t, "Commit", l.Commit(pages...), api.OK)
		d := l.Disk()
		if s, _ := d.Waiting(); len(s) != 0 {
			t.Errorf("sectors %v wait", s)
		}
		flushes := 0
		for k := range d.Ops() {
			cut, _ := d.Cut(k + 1)
			if s, _ := cut.Waiting(); len(s) == 0 {
				flushes++
			}
		}
		if flushes != 4 || d.Ops()-flushes != 2*n+2 {
			t.Errorf("%d pages: %d flushes, %d writes", n, flushes, d.Ops()-flushes)
		}
	}
}
