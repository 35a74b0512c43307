// Package disk is a disk of sectors, whose writes wait for a flush. See ../../shared/doc/01-disk.md.
package disk

import (
	"slices"
	"strings"

	"dunnage/api"
)

// Disk is one.
type Disk struct {
	first  []sector // as it was made; Cut begins there, and nobody writes to it
	ops    []op     // all that were done, in their order
	plates          // what these ops have made of first
}

// New is a disk of sectors that are 0 everywhere.
func New(sectors int) (*Disk, api.Errno) {
	if !isSize(sectors) {
		return nil, api.ErrRange
	}
	blank := sector(strings.Repeat("\x00", api.SectorBytes))
	return made(slices.Repeat([]sector{blank}, sectors)), api.OK
}

// Load is a disk with an image.
func Load(image ...[]byte) (*Disk, api.Errno) {
	if !isSize(len(image)) {
		return nil, api.ErrRange
	}
	first := make([]sector, len(image))
	for n, b := range image {
		if len(b) != api.SectorBytes {
			return nil, api.ErrForm
		}
		first[n] = sector(b)
	}
	return made(first), api.OK
}

// Sectors is how many it has.
func (d *Disk) Sectors() int {
	if d == nil {
		return 0
	}
	return len(d.safe)
}

// Ops is how many writes and flushes there were.
func (d *Disk) Ops() int {
	if d == nil {
		return 0
	}
	return len(d.ops)
}

// Read is a sector, as it was written last.
func (d *Disk) Read(n int) ([]byte, api.Errno) {
	if d == nil {
		return nil, api.ErrNil
	}
	if !d.has(n) {
		return nil, api.ErrRange
	}
	return []byte(d.seen(n)), api.OK
}

// Write writes a sector; it waits.
func (d *Disk) Write(n int, b ...byte) api.Errno {
	if d == nil {
		return api.ErrNil
	}
	if !d.has(n) {
		return api.ErrRange
	}
	if len(b) != api.SectorBytes {
		return api.ErrForm
	}
	d.note(write{n, sector(b)})
	return api.OK
}

// Flush lets all that waits be there for good.
func (d *Disk) Flush() api.Errno {
	if d == nil {
		return api.ErrNil
	}
	d.note(flush{})
	return api.OK
}

// Waiting are the sectors with writes that wait, rising, and how many of each.
func (d *Disk) Waiting() (sectors, writes []int) {
	if d == nil {
		return nil, nil
	}
	sectors = d.waiting()
	for _, n := range sectors {
		writes = append(writes, len(d.waits[n]))
	}
	return sectors, writes
}

// Cut is the disk as it stood behind the first k writes and flushes.
func (d *Disk) Cut(k int) (*Disk, api.Errno) {
	if d == nil {
		return nil, api.ErrNil
	}
	if k < 0 || k > len(d.ops) {
		return nil, api.ErrRange
	}
	c := made(d.first)
	c.ops = d.noted(k)
	for _, o := range c.ops {
		c.do(o)
	}
	return c, api.OK
}

// Crash is what a crash leaves: of each sector that waits so many of its writes.
func (d *Disk) Crash(keep ...int) (*Disk, api.Errno) {
	if d == nil {
		return nil, api.ErrNil
	}
	sectors := d.waiting()
	if len(keep) > len(sectors) {
		return nil, api.ErrRange
	}
	left := slices.Clone(d.safe)
	for i, k := range keep {
		n := sectors[i]
		if k < 0 || k > len(d.waits[n]) {
			return nil, api.ErrRange
		}
		if k > 0 {
			left[n] = d.waits[n][k-1]
		}
	}
	return made(left), api.OK
}

// Image is all sectors as they are read.
func (d *Disk) Image() [][]byte {
	if d == nil {
		return nil
	}
	image := make([][]byte, len(d.safe))
	for n := range image {
		image[n] = []byte(d.seen(n))
	}
	return image
}

// Safe is all sectors as they were flushed.
func (d *Disk) Safe() [][]byte {
	if d == nil {
		return nil
	}
	image := make([][]byte, len(d.safe))
	for n, s := range d.safe {
		image[n] = []byte(s)
	}
	return image
}

// Same tells whether two disks are read alike.
func Same(a, b *Disk) bool {
	if a == nil || b == nil {
		return a == b
	}
	if len(a.safe) != len(b.safe) {
		return false
	}
	for n := range a.safe {
		if a.seen(n) != b.seen(n) {
			return false
		}
	}
	return true
}

// Fork is another one with the same.
func (d *Disk) Fork() *Disk {
	if d == nil {
		return nil
	}
	return &Disk{first: d.first, ops: d.noted(len(d.ops)), plates: d.copied()}
}

func isSize(sectors int) bool {
	return sectors >= 1 && sectors <= api.MaxSectors
}

func made(first []sector) *Disk {
	return &Disk{first: first, plates: flushed(first)}
}

// note keeps an op, so that Cut can do it anew, and does it.
func (d *Disk) note(o op) {
	d.ops = append(d.ops, o)
	d.do(o)
}

// noted are the first k ops. Disks may share them, as nobody changes an op;
// without room behind the k-th one, the next op of this list is noted elsewhere.
func (d *Disk) noted(k int) []op {
	return d.ops[:k:k]
}
