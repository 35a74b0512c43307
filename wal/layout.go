package wal

import (
	"dunnage/api"
	"dunnage/disk"
)

// Where the head is, and where the log begins.
const (
	headAt = 0
	logAt  = 1
)

// layout is a disk, and which of its sectors are the log's and which the pages' homes.
type layout struct {
	*disk.Disk
	size int // sectors of the log
}

func (a layout) pages() int {
	return a.Sectors() - logAt - a.size
}

func (a layout) capacity() int {
	return min(a.size, api.MaxGroup)
}

func (a layout) has(n int) bool {
	return n >= 0 && n < a.pages()
}

func (a layout) home(n int) int {
	return logAt + a.size + n
}

// grouped are pages as a group. A number of no page goes ahead of whatever is wrong with the pages ahead of it.
func (a layout) grouped(pages []api.Page) (group, api.Errno) {
	g, e := group{}, api.OK
	for _, p := range pages {
		if !a.has(p.Number) {
			return nil, api.ErrRange
		}
		if _, twice := g[p.Number]; twice || len(p.Bytes) != api.SectorBytes {
			e = api.ErrForm
		}
		g[p.Number] = p.Bytes
	}
	return g, e
}

// logged are the pages of these numbers as the log has them.
func (a layout) logged(numbers []int) group {
	g := group{}
	for i, n := range numbers {
		g[n], _ = a.Read(logAt + i)
	}
	return g
}

// write writes a group so that it is done just if its head is safe: then all that it needs is in the log.
func (a layout) write(g group) {
	numbers := g.numbers()
	for i, n := range numbers {
		a.Write(logAt+i, g[n]...)
	}
	a.Flush()
	a.Write(headAt, headOf(numbers)...)
	a.Flush()
	a.bringHome(g)
}

// bringHome writes a group that is in the log to its homes. Only when these are safe the log may forget it.
func (a layout) bringHome(g group) {
	for _, n := range g.numbers() {
		a.Write(a.home(n), g[n]...)
	}
	a.Flush()
	a.Write(headAt, headOf(nil)...)
	a.Flush()
}
