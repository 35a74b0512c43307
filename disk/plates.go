package disk

import (
	"maps"
	"slices"
)

// sector is the bytes of one: a text, as that can't be changed, so disks may share it.
type sector string

// op is what may be done to a disk: a write or a flush.
type op interface{ isOp() }

type write struct {
	n int
	s sector
}

type flush struct{}

func (write) isOp() {}
func (flush) isOp() {}

// plates are what is on a disk at one time.
type plates struct {
	safe  []sector         // as they were flushed
	waits map[int][]sector // of a sector its writes that wait, the oldest first; no sector without any
}

func flushed(s []sector) plates {
	return plates{slices.Clone(s), map[int][]sector{}}
}

func (p *plates) do(o op) {
	switch x := o.(type) {
	case write:
		p.waits[x.n] = append(p.waits[x.n], x.s)
	case flush:
		for n := range p.waits {
			p.safe[n] = p.seen(n)
		}
		clear(p.waits)
	}
}

func (p *plates) has(n int) bool {
	return n >= 0 && n < len(p.safe)
}

// seen is the sector n as it is read.
func (p *plates) seen(n int) sector {
	if w := p.waits[n]; len(w) > 0 {
		return w[len(w)-1]
	}
	return p.safe[n]
}

func (p *plates) waiting() []int {
	return slices.Sorted(maps.Keys(p.waits))
}

func (p *plates) copied() plates {
	c := flushed(p.safe)
	for n, w := range p.waits {
		c.waits[n] = slices.Clone(w)
	}
	return c
}
