package crashes

import (
	"bytes"
	"fmt"
	"slices"
	"testing"

	"dunnage/api"
	"dunnage/disk"
)

// written is a disk with so many sectors, on which a write of each sector of a row waits; what is written is 1, 2, 3 and so on.
func written(t *testing.T, sectors int, row ...int) *disk.Disk {
	t.Helper()
	d, e := disk.New(sectors)
	if e != api.OK {
		t.Fatal(e)
	}
	for i, n := range row {
		if e := d.Write(n, bytes.Repeat([]byte{byte(i + 1)}, api.SectorBytes)...); e != api.OK {
			t.Fatal(e)
		}
	}
	return d
}

// first are the first bytes of all sectors.
func first(d *disk.Disk) string {
	var all []byte
	for _, b := range d.Image() {
		all = append(all, b[0])
	}
	return fmt.Sprint(all)
}

func told(d *disk.Disk, k int) []string {
	var all []string
	for left := range Of(d, k) {
		all = append(all, first(left))
	}
	slices.Sort(all)
	return all
}

func TestOf(t *testing.T) {
	d := written(t, 3, 0, 2, 2)
	for k, want := range [][]string{
		{"[0 0 0]"},
		{"[0 0 0]", "[1 0 0]"},
		{"[0 0 0]", "[0 0 2]", "[1 0 0]", "[1 0 2]"},
		{"[0 0 0]", "[0 0 2]", "[0 0 3]", "[1 0 0]", "[1 0 2]", "[1 0 3]"},
		nil,
	} {
		if got := told(d, k); !slices.Equal(got, want) {
			t.Errorf("behind op %d: %v, want %v", k, got, want)
		}
	}
	if got := told(d, -1); got != nil {
		t.Errorf("behind no op: %v", got)
	}
}

func TestBehind(t *testing.T) {
	d := written(t, 2, 0, 1)
	seen := map[int]int{}
	for k := range Behind(d, 1) {
		seen[k]++
	}
	if len(seen) != 2 || seen[1] != 2 || seen[2] != 4 {
		t.Errorf("disks by ops: %v", seen)
	}
	for range Behind(d, 0) {
		break
	}
}

// Where there are too many choices, the plainest of them.
func TestOfMany(t *testing.T) {
	var row []int
	for n := range 11 {
		row = append(row, n)
	}
	got := told(written(t, 11, row...), 11)
	if len(got) != 24 || len(slices.Compact(got)) != 24 {
		t.Errorf("%d disks", len(got))
	}
	for _, want := range []string{
		"[0 0 0 0 0 0 0 0 0 0 0]", "[1 2 3 4 5 6 7 8 9 10 11]", "[0 0 3 0 0 0 0 0 0 0 0]", "[1 2 3 4 5 6 7 8 9 10 0]",
	} {
		if !slices.Contains(got, want) {
			t.Errorf("not %s", want)
		}
	}
	if got := told(written(t, 11, row[:10]...), 10); len(slices.Compact(got)) != 1024 {
		t.Errorf("%d disks", len(got))
	}
}
