package inode

import (
	"bytes"
	"math"
	"slices"
	"testing"

	"dunnage/api"
)

// P6.2, and the example of chapter 6
func TestWrite(t *testing.T) {
	s := stored(t, 40, 8)
	i := made(t, s, api.File, 420)
	wantError(t, "Write", s.Write(i, 5120, 'a'), api.OK)
	want := append(make([]byte, 5120), 'a')
	wantBytes(t, "a hole", s, i, want)
	if pages, _ := s.Pages(i); i != 1 || len(pages) != 12 || Need(5121) != 12 {
		t.Errorf("inode %d has %v", i, pages)
	}
	for _, x := range []struct{ at, n int }{
		{0, 1}, {0, 512}, {511, 2}, {1, 511}, {512, 512}, {5119, 3}, {5121, 1}, {100, 5500}, {5599, 2}, {0, 5600}, {6000, 700},
	} {
		b := text(x.n, x.at)
		wantError(t, "Write", s.Write(i, x.at, b...), api.OK)
		want = append(want, make([]byte, max(0, x.at+x.n-len(want)))...)
		copy(want[x.at:], b)
		wantBytes(t, "Write", s, i, want)
		wantSound(t, s)
	}
	if node := got(t, s, i); node.Kind != api.File || node.Mode != 420 || node.Links != 1 {
		t.Errorf("Get: %v", node)
	}
}

// P6.2: where a write may end, and where it may begin.
func TestWriteEdges(t *testing.T) {
	s := stored(t, 200, 8)
	i := newFile(t, s, text(api.MaxFile-1, 2))
	wantStill(t, "too long", s, func() {
		wantError(t, "Write", s.Write(i, api.MaxFile-1, 1, 2), api.ErrLong)
		wantError(t, "Write", s.Write(i, api.MaxFile, 1), api.ErrLong)
		wantError(t, "Write", s.Write(i, math.MaxInt, 1), api.ErrLong)
		wantError(t, "Write", s.Write(i, math.MaxInt-1, 1, 2, 3), api.ErrLong)
		wantError(t, "Write", s.Write(i, 0, make([]byte, api.MaxFile+1)...), api.ErrLong)
		wantError(t, "Write", s.Write(i, 1, make([]byte, api.MaxFile)...), api.ErrLong)
	})
	wantStill(t, "below 0", s, func() {
		wantError(t, "Write", s.Write(i, -1, 1), api.ErrRange)
		wantError(t, "Write", s.Write(i, math.MinInt, 1), api.ErrRange)
		wantError(t, "Write", s.Write(i, -1), api.ErrRange)
		wantError(t, "Write", s.Write(i, -5, make([]byte, api.MaxFile+7)...), api.ErrRange)
	})
	wantError(t, "Write", s.Write(i, api.MaxFile-1, 9), api.OK)
	wantBytes(t, "the last byte", s, i, append(text(api.MaxFile-1, 2), 9))
}

// P6.2: of no bytes nothing changes, wherever they would stand.
func TestWriteOfNothing(t *testing.T) {
	s := stored(t, 40, 8)
	i := newFile(t, s, text(600, 1))
	empty := newFile(t, s, nil)
	wantStill(t, "no bytes", s, func() {
		for _, at := range []int{0, 1, 599, 600, 601, 5121, api.MaxFile, api.MaxFile + 1, math.MaxInt} {
			wantError(t, "Write", s.Write(i, at), api.OK)
			wantError(t, "Write", s.Write(i, at, nil...), api.OK)
			wantError(t, "Write", s.Write(empty, at, []byte{}...), api.OK)
		}
	})
	wantBytes(t, "no bytes", s, i, text(600, 1))
	wantBytes(t, "no bytes", s, empty, nil)
}

// P6.2: all places and numbers around the size.
func TestRead(t *testing.T) {
	s := stored(t, 40, 8)
	want := text(6000, 5)
	i := newFile(t, s, want)
	wantStill(t, "Read", s, func() {
		for _, at := range []int{0, 1, 511, 512, 513, 5119, 5120, 5121, 5999, 6000, 6001, 70000, math.MaxInt} {
			for _, n := range []int{0, 1, 2, 511, 512, 513, 1024, 5121, 6000, 6001, math.MaxInt} {
				b, e := s.Read(i, at, n)
				from := min(at, 6000)
				if e != api.OK || !bytes.Equal(b, want[from:from+min(n, 6000-from)]) {
					t.Errorf("Read(%d, %d): %d bytes, error %d", at, n, len(b), e)
				}
			}
		}
		for _, x := range [][2]int{{-1, 1}, {0, -1}, {-1, -1}, {math.MinInt, 0}, {0, math.MinInt}, {math.MaxInt, -1}, {-1, math.MaxInt}} {
			b, e := s.Read(i, x[0], x[1])
			if len(b) != 0 || e != api.ErrRange {
				t.Errorf("Read(%d, %d): %d bytes, error %d", x[0], x[1], len(b), e)
			}
		}
	})
	empty := newFile(t, s, nil)
	for _, n := range []int{0, 1, math.MaxInt} {
		if b, e := s.Read(empty, 0, n); len(b) != 0 || e != api.OK {
			t.Errorf("Read of an empty file: %d bytes, error %d", len(b), e)
		}
	}
}

// P6.2: from each of the edges' sizes to each other one.
func TestResize(t *testing.T) {
	sizes := []int{0, 1, 511, 512, 513, 1024, 5119, 5120, 5121, 5632, 5633, 9000}
	for _, from := range sizes {
		for _, to := range sizes {
			s := stored(t, 40, 8)
			i := newFile(t, s, text(from, 1))
			free, _ := s.Map().Free()
			wantError(t, "Resize", s.Resize(i, to), api.OK)
			want := append(text(from, 1), make([]byte, max(0, to-from))...)[:to]
			wantBytes(t, "Resize", s, i, want)
			if p, _ := s.Map().Free(); free-p != Need(to)-Need(from) {
				t.Errorf("from %d to %d: %d pages", from, to, free-p)
			}
			wantSound(t, s)
			if from == to && len(cacheOf(s).Dirty()) != 0 {
				t.Error("nothing was asked for, and something is written")
			}
		}
	}
}

// P6.2
func TestResizeEdges(t *testing.T) {
	s := stored(t, 200, 8)
	i := newFile(t, s, text(api.MaxFile-600, 1))
	wantStill(t, "Resize", s, func() {
		for _, size := range []int{-1, -512, math.MinInt} {
			wantError(t, "Resize", s.Resize(i, size), api.ErrRange)
		}
		for _, size := range []int{api.MaxFile + 1, api.MaxFile + 512, 1 << 32, math.MaxInt} {
			wantError(t, "Resize", s.Resize(i, size), api.ErrLong)
		}
	})
	wantError(t, "Resize", s.Resize(i, api.MaxFile), api.OK)
	wantBytes(t, "MaxFile", s, i, append(text(api.MaxFile-600, 1), make([]byte, 600)...))
	wantError(t, "Resize", s.Resize(i, 0), api.OK)
	wantBytes(t, "nothing", s, i, nil)
	wantSound(t, s)
}

// Chapter 6, 'Words': what lies behind the size reads as 0 when it grows, by whatever call.
func TestCutAndGrown(t *testing.T) {
	sizes := []int{0, 1, 100, 511, 512, 513, 5000, 5120, 5121, 6000}
	for _, cut := range sizes {
		for _, size := range sizes {
			if size <= cut {
				continue
			}
			for _, kept := range []bool{false, true} {
				s := stored(t, 40, 8)
				i := newFile(t, s, text(6000, 1))
				wantError(t, "Resize", s.Resize(i, cut), api.OK)
				if kept {
					commit(t, s)
				}
				want := append(text(6000, 1)[:cut], make([]byte, size-cut)...)
				wantError(t, "Resize", s.Resize(i, size), api.OK)
				wantBytes(t, "cut and grown", s, i, want)

				wantError(t, "Resize", s.Resize(i, cut), api.OK)
				wantError(t, "Write", s.Write(i, size-1, 7), api.OK)
				want[size-1] = 7
				wantBytes(t, "cut and written", s, i, want)
				wantSound(t, s)
			}
		}
	}
}

// Chapter 6, 'Words': also if it is cut, grows a little, and grows again within one page.
func TestCutAndGrownTwice(t *testing.T) {
	s := stored(t, 40, 8)
	i := newFile(t, s, text(400, 1))
	want := text(400, 1)[:50]
	wantError(t, "Resize", s.Resize(i, 50), api.OK)
	wantError(t, "Resize", s.Resize(i, 60), api.OK)
	want = append(want, make([]byte, 10)...)
	wantBytes(t, "grown", s, i, want)
	wantError(t, "Write", s.Write(i, 70, 1, 2), api.OK)
	want = append(append(want, make([]byte, 10)...), 1, 2)
	wantBytes(t, "written", s, i, want)
	wantError(t, "Resize", s.Resize(i, 500), api.OK)
	wantBytes(t, "grown again", s, i, append(want, make([]byte, 428)...))
}

// P6.2, P6.4: pages that were another file's are 0 in holes.
func TestHolesAreNoughts(t *testing.T) {
	s := stored(t, 40, 8)
	old := newFile(t, s, bytes.Repeat([]byte{0xff}, 10000))
	wantError(t, "Drop", s.Drop(old), api.OK)
	commit(t, s)
	i := made(t, s, api.File, 420)
	wantError(t, "Write", s.Write(i, 9000, 1, 2, 3), api.OK)
	wantBytes(t, "a hole", s, i, append(make([]byte, 9000), 1, 2, 3))
	wantSound(t, s)
}

// What a call writes is what it must: the cache's room is scarce.
func TestWritesNoMoreThanItMust(t *testing.T) {
	s := stored(t, 60, 8)
	i := newFile(t, s, text(6000, 1))
	for _, x := range []struct {
		what  string
		call  func() api.Errno
		dirty []int
	}{
		{"a Write within a page", func() api.Errno { return s.Write(i, 10, 1) }, []int{4}},
		{"a Write behind Direct", func() api.Errno { return s.Write(i, 5130, 1) }, []int{15}},
		{"a Write that lets the last page be fuller", func() api.Errno { return s.Write(i, 6000, 1) }, []int{3, 16}},
		{"a Write of one page more", func() api.Errno { return s.Write(i, 6144, 1) }, []int{2, 3, 14, 17}},
		{"a Resize within a page", func() api.Errno { return s.Resize(i, 5990) }, []int{3}},
		{"a Resize to Direct pages", func() api.Errno { return s.Resize(i, 5120) }, []int{2, 3}},
		{"a Drop", func() api.Errno { return s.Drop(i) }, []int{1, 2, 3}},
		{"a Set", func() api.Errno { return s.Set(i, 1, 1) }, []int{3}},
		{"a Make", func() api.Errno { return second(s.Make(api.File, 1)) }, []int{1, 3}},
	} {
		wantError(t, x.what, x.call(), api.OK)
		if dirty := cacheOf(s).Dirty(); !slices.Equal(dirty, x.dirty) {
			t.Errorf("%s writes %v, want %v", x.what, dirty, x.dirty)
		}
		cacheOf(s).Abort()
	}
}
