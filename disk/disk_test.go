package disk

import (
	"bytes"
	"math"
	"slices"
	"testing"

	"dunnage/api"
)

// full is a sector whose bytes all tell its number, so that a torn or mixed one shows.
func full(x int) []byte {
	return bytes.Repeat([]byte{byte(x)}, api.SectorBytes)
}

func fulls(numbers ...int) [][]byte {
	var image [][]byte
	for _, x := range numbers {
		image = append(image, full(x))
	}
	return image
}

func alike(a, b [][]byte) bool {
	return slices.EqualFunc(a, b, bytes.Equal)
}

func wantError(t *testing.T, what string, got, want api.Errno) {
	t.Helper()
	if got != want {
		t.Errorf("%s: error %d, want %d", what, got, want)
	}
}

func wantDisk(t *testing.T, what string, d *Disk, image, safe [][]byte, ops int) {
	t.Helper()
	if d == nil {
		t.Errorf("%s: no disk", what)
		return
	}
	if d.Sectors() != len(image) || d.Ops() != ops {
		t.Errorf("%s: %d sectors and %d ops, want %d and %d", what, d.Sectors(), d.Ops(), len(image), ops)
	}
	if !alike(d.Image(), image) {
		t.Errorf("%s: the image is another one", what)
	}
	if !alike(d.Safe(), safe) {
		t.Errorf("%s: another image is safe", what)
	}
	for n := range image {
		b, e := d.Read(n)
		wantError(t, what, e, api.OK)
		if !bytes.Equal(b, image[n]) {
			t.Errorf("%s: sector %d is read otherwise", what, n)
		}
	}
}

func wantWaiting(t *testing.T, what string, d *Disk, sectors, writes []int) {
	t.Helper()
	s, w := d.Waiting()
	if !slices.Equal(s, sectors) || !slices.Equal(w, writes) {
		t.Errorf("%s: waiting %v %v, want %v %v", what, s, w, sectors, writes)
	}
}

func loaded(t *testing.T, numbers ...int) *Disk {
	t.Helper()
	d, e := Load(fulls(numbers...)...)
	if e != api.OK || d == nil {
		t.Fatalf("Load: %d", e)
	}
	return d
}

func put(t *testing.T, d *Disk, n, x int) {
	t.Helper()
	wantError(t, "Write", d.Write(n, full(x)...), api.OK)
}

// P1.1, P5
func TestNew(t *testing.T) {
	for _, n := range []int{1, 2, api.MaxSectors} {
		d, e := New(n)
		wantError(t, "New", e, api.OK)
		noughts := fulls(make([]int, n)...)
		wantDisk(t, "New", d, noughts, noughts, 0)
		wantWaiting(t, "New", d, nil, nil)
	}
	for _, n := range []int{0, -1, api.MaxSectors + 1, math.MinInt, math.MaxInt} {
		d, e := New(n)
		wantError(t, "New", e, api.ErrRange)
		if d != nil {
			t.Errorf("New(%d): a disk beside an error", n)
		}
	}
}

// P1.1
func TestLoad(t *testing.T) {
	d := loaded(t, 7, 8, 9)
	wantDisk(t, "Load", d, fulls(7, 8, 9), fulls(7, 8, 9), 0)
	wantWaiting(t, "Load", d, nil, nil)
	most := make([]int, api.MaxSectors)
	most[api.MaxSectors-1] = 5
	wantDisk(t, "Load of the most", loaded(t, most...), fulls(most...), fulls(most...), 0)
}

// P1.1, P2
func TestLoadErrors(t *testing.T) {
	tooMany := make([][]byte, api.MaxSectors+1) // and each of a wrong length: the range is named first
	for _, c := range []struct {
		name  string
		image [][]byte
		want  api.Errno
	}{
		{"nil", nil, api.ErrRange},
		{"none", [][]byte{}, api.ErrRange},
		{"too many", tooMany, api.ErrRange},
		{"nil sector", [][]byte{nil}, api.ErrForm},
		{"short", [][]byte{full(1), full(2)[1:]}, api.ErrForm},
		{"long", [][]byte{append(full(1), 1), full(2)}, api.ErrForm},
	} {
		d, e := Load(c.image...)
		wantError(t, c.name, e, c.want)
		if d != nil {
			t.Errorf("%s: a disk beside an error", c.name)
		}
	}
}

// P1.2
func TestReadWriteFlush(t *testing.T) {
	d := loaded(t, 0, 0, 0)
	put(t, d, 2, 1)
	put(t, d, 0, 2)
	put(t, d, 2, 3)
	wantDisk(t, "written", d, fulls(2, 0, 3), fulls(0, 0, 0), 3)
	wantWaiting(t, "written", d, []int{0, 2}, []int{1, 2})
	wantError(t, "Flush", d.Flush(), api.OK)
	wantDisk(t, "flushed", d, fulls(2, 0, 3), fulls(2, 0, 3), 4)
	wantWaiting(t, "flushed", d, nil, nil)
	wantError(t, "Flush of nothing", d.Flush(), api.OK)
	wantDisk(t, "flushed twice", d, fulls(2, 0, 3), fulls(2, 0, 3), 5)
	put(t, d, 2, 3)
	wantWaiting(t, "the same bytes anew", d, []int{2}, []int{1})
}

// P1.2, P2
func TestReadWriteErrors(t *testing.T) {
	d := loaded(t, 1, 2)
	put(t, d, 0, 3)
	for _, n := range []int{-1, 2, 3, math.MinInt, math.MaxInt} {
		b, e := d.Read(n)
		wantError(t, "Read", e, api.ErrRange)
		if len(b) != 0 {
			t.Errorf("Read(%d): bytes beside an error", n)
		}
		wantError(t, "Write", d.Write(n, full(9)...), api.ErrRange)
		wantError(t, "Write of nothing", d.Write(n), api.ErrRange)
	}
	for _, b := range [][]byte{nil, {}, {9}, full(9)[1:], append(full(9), 9)} {
		wantError(t, "Write", d.Write(0, b...), api.ErrForm)
	}
	wantDisk(t, "behind errors", d, fulls(3, 2), fulls(1, 2), 1)
	wantWaiting(t, "behind errors", d, []int{0}, []int{1})
}

// P1.3
func TestWaitingRises(t *testing.T) {
	d, _ := New(300)
	for i := range 300 {
		n := (i * 7) % 300
		for range n%3 + 1 {
			put(t, d, n, n)
		}
	}
	sectors, writes := d.Waiting()
	if len(sectors) != 300 || len(writes) != 300 {
		t.Fatalf("%d sectors and %d counts wait", len(sectors), len(writes))
	}
	for n := range 300 {
		if sectors[n] != n || writes[n] != n%3+1 {
			t.Errorf("at %d: sector %d with %d writes", n, sectors[n], writes[n])
		}
	}
}

// P1.3
func TestSame(t *testing.T) {
	a, b := loaded(t, 1, 2), loaded(t, 1, 0)
	if Same(a, b) || Same(b, a) {
		t.Error("unlike sectors are the same")
	}
	put(t, b, 1, 2)
	if !Same(a, b) || !Same(b, a) || !Same(a, a) {
		t.Error("what waits is not seen, or ops play a part")
	}
	wantError(t, "Flush", b.Flush(), api.OK)
	if !Same(a, b) {
		t.Error("a flush plays a part")
	}
	if Same(a, loaded(t, 1)) || Same(a, loaded(t, 1, 2, 0)) {
		t.Error("disks of unlike lengths are the same")
	}
	if !Same(nil, nil) || Same(a, nil) || Same(nil, a) {
		t.Error("nil")
	}
}
