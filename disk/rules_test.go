package disk

import (
	"bytes"
	"testing"

	"dunnage/api"
)

// P1
func TestNil(t *testing.T) {
	var d *Disk
	if d.Sectors() != 0 || d.Ops() != 0 || len(d.Image()) != 0 || len(d.Safe()) != 0 || d.Fork() != nil {
		t.Error("nil has something")
	}
	wantWaiting(t, "nil", d, nil, nil)
	b, e := d.Read(0)
	wantError(t, "Read", e, api.ErrNil)
	if len(b) != 0 {
		t.Error("nil is read")
	}
	wantError(t, "Read of no sector", second(d.Read(-1)), api.ErrNil)
	wantError(t, "Write", d.Write(0, full(1)...), api.ErrNil)
	wantError(t, "Write of nothing", d.Write(-1), api.ErrNil)
	wantError(t, "Flush", d.Flush(), api.ErrNil)
	cut, e := d.Cut(0)
	wantError(t, "Cut", e, api.ErrNil)
	left, f := d.Crash()
	wantError(t, "Crash", f, api.ErrNil)
	if cut != nil || left != nil {
		t.Error("a disk of nil")
	}
	wantError(t, "Cut at -1", second(d.Cut(-1)), api.ErrNil)
	wantError(t, "Crash with a number", second(d.Crash(1)), api.ErrNil)
}

func second[T any](_ T, e api.Errno) api.Errno { return e }

// P3: what is handed in is not kept, and stays as it is, spare room too.
func TestHandedInStays(t *testing.T) {
	room := append(full(1), 2, 3, 4)
	was := bytes.Clone(room)
	image := [][]byte{room[:api.SectorBytes], full(5), full(6)}
	d, _ := Load(image[:2]...)
	wantError(t, "Write", d.Write(1, room[:api.SectorBytes]...), api.OK)
	d.Flush()
	put(t, d, 0, 9)
	if !bytes.Equal(room, was) || !bytes.Equal(image[1], full(5)) || !bytes.Equal(image[2], full(6)) {
		t.Error("what was handed in has changed")
	}
	keep := []int{0, 8, 9}
	if _, e := d.Crash(keep[:1]...); e != api.OK || keep[0] != 0 || keep[1] != 8 || keep[2] != 9 {
		t.Error("the numbers that were handed in have changed")
	}
	clear(room)
	clear(image[1])
	image[0] = nil
	wantDisk(t, "behind a change of what was handed in", d, fulls(9, 1), fulls(1, 1), 3)
	cut, _ := d.Cut(0)
	wantDisk(t, "its beginning", cut, fulls(1, 5), fulls(1, 5), 0)
}

// P3: what is answered is the caller's.
func TestAnsweredIsTheCallers(t *testing.T) {
	d := loaded(t, 1, 2, 3)
	put(t, d, 1, 4)
	b, _ := d.Read(1)
	s, w := d.Waiting()
	image, safe := d.Image(), d.Safe()
	clear(b)
	s[0], w[0] = 7, 7
	for n := range image {
		clear(image[n][:cap(image[n])])
		if n > 0 {
			continue
		}
		if !alike(image[1:], fulls(4, 3)) {
			t.Error("two sectors of an image share bytes")
		}
	}
	for n := range safe {
		clear(safe[n])
		safe[n] = nil
	}
	wantDisk(t, "behind a change of what was answered", d, fulls(1, 4, 3), fulls(1, 2, 3), 1)
	wantWaiting(t, "behind a change of what was answered", d, []int{1}, []int{1})
}

// P6: disks know nothing of each other.
func TestDisksAreApart(t *testing.T) {
	a, _ := New(2)
	put(t, a, 0, 1)
	b, _ := New(2)
	wantDisk(t, "a second disk", b, fulls(0, 0), fulls(0, 0), 0)
	put(t, b, 1, 2)
	b.Flush()
	wantDisk(t, "the first disk", a, fulls(1, 0), fulls(0, 0), 1)
	wantWaiting(t, "the first disk", a, []int{0}, []int{1})
}
