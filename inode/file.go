package inode

import (
	"bytes"
	"iter"

	"dunnage/api"
	"dunnage/octets"
)

// file is an inode at work. Nothing of it outlasts a call.
type file struct {
	ground
	number int
	node   api.Inode
	far    [api.Pointers]int // the pages behind Direct, as the indirect one names them
}

// span is a piece of a page, its end not in it.
type span struct {
	from, end int
}

// filled is how many pages so many bytes fill, the last one in part.
func filled(size int) int {
	return (size + api.SectorBytes - 1) / api.SectorBytes
}

// hasFar tells whether a file of such a size has an indirect page.
func hasFar(size int) bool {
	return size > api.Direct*api.SectorBytes
}

func (g ground) open(i int, node api.Inode) *file {
	f := &file{ground: g, number: i, node: node}
	if hasFar(node.Size) {
		names := g.page(node.Pages[api.Direct])
		for k := range f.far {
			f.far[k] = octets.Number(fourth(names, k))
		}
	}
	return f
}

// slot is where the number of the page stands that a file takes as its j-th one when it grows from nothing.
// The indirect page comes ahead of those behind Direct: so it does in the inode's own array.
func (f *file) slot(j int) *int {
	if j <= api.Direct {
		return &f.node.Pages[j]
	}
	return &f.far[j-api.Direct-1]
}

// rising yields slots in the order in which pages are taken.
func (f *file) rising(from, end int) iter.Seq[*int] {
	return func(yield func(*int) bool) {
		for j := from; j < end; j++ {
			if !yield(f.slot(j)) {
				return
			}
		}
	}
}

// falling yields slots in the order in which pages are given back.
func (f *file) falling(end, from int) iter.Seq[*int] {
	return func(yield func(*int) bool) {
		for j := end - 1; j >= from; j-- {
			if !yield(f.slot(j)) {
				return
			}
		}
	}
}

// parts yields the data pages in which the bytes from at on, ahead of end, lie, and which piece of each.
func (f *file) parts(at, end int) iter.Seq2[int, span] {
	return func(yield func(int, span) bool) {
		for k := at / api.SectorBytes; k < filled(min(end, api.MaxFile)); k++ {
			begin := k * api.SectorBytes
			last := Need(begin+1) - 1 // a file that ends in this page takes it as its last one
			piece := span{max(at-begin, 0), min(end-begin, api.SectorBytes)}
			if !yield(*f.slot(last), piece) {
				return
			}
		}
	}
}

// pages are all pages of the file, the indirect one last.
func (f *file) pages() []int {
	var all []int
	for n := range f.parts(0, f.node.Size) {
		all = append(all, n)
	}
	if hasFar(f.node.Size) {
		all = append(all, f.node.Pages[api.Direct])
	}
	return all
}

func (f *file) read(at, end int) []byte {
	var b []byte
	for n, p := range f.parts(at, end) {
		b = append(b, f.page(n)[p.from:p.end]...)
	}
	return b
}

// write lets b stand at at; the file grows, if it must.
func (f *file) write(at int, b []byte) api.Errno {
	end := at + len(b)
	if e := f.hold(max(end, f.node.Size)); e != api.OK {
		return e
	}
	for n, p := range f.parts(at, end) {
		whole := f.page(n)
		b = b[copy(whole[p.from:p.end], b):]
		if e := f.Cache().Write(n, whole...); e != api.OK {
			return e
		}
	}
	return f.save()
}

func (f *file) resize(size int) api.Errno {
	if e := f.hold(size); e != api.OK {
		return e
	}
	return f.save()
}

// drop gives back all that the file has, and its inode.
func (f *file) drop() api.Errno {
	if e := f.hold(0); e != api.OK {
		return e
	}
	if e := f.put(f.number, api.Inode{}); e != api.OK {
		return e
	}
	return f.GiveInode(f.number)
}

// hold takes or gives back pages, till there are as many as the size needs.
func (f *file) hold(size int) api.Errno {
	if size > f.node.Size {
		if e := f.clearTail(); e != api.OK {
			return e
		}
	}
	have, need := Need(f.node.Size), Need(size)
	for place := range f.rising(have, need) {
		n, e := f.Page()
		if e != api.OK {
			return e
		}
		*place = n
	}
	for place := range f.falling(have, need) {
		if e := f.GivePage(*place); e == api.ErrFull { // a page that is free already is what is asked for
			return e
		}
		*place = 0
	}
	f.node.Size = size
	return api.OK
}

// clearTail lets what lies behind the size in the last page be 0: bytes that were cut off may be there.
func (f *file) clearTail() api.Errno {
	size := f.node.Size
	for n, p := range f.parts(size, filled(size)*api.SectorBytes) {
		whole := f.page(n)
		tail := whole[p.from:]
		if bytes.Equal(tail, make([]byte, len(tail))) {
			continue // the cache's room is scarce
		}
		clear(tail)
		if e := f.Cache().Write(n, whole...); e != api.OK {
			return e
		}
	}
	return api.OK
}

// save writes the inode and its indirect page, each just if it is another one now: the cache's room is scarce.
func (f *file) save() api.Errno {
	if e := f.saveFar(); e != api.OK {
		return e
	}
	if f.node == f.get(f.number) {
		return api.OK
	}
	return f.put(f.number, f.node)
}

func (f *file) saveFar() api.Errno {
	if !hasFar(f.node.Size) {
		return api.OK
	}
	names := make([]byte, api.SectorBytes)
	for k, n := range f.far {
		octets.Put(fourth(names, k), n)
	}
	indirect := f.node.Pages[api.Direct]
	if bytes.Equal(names, f.page(indirect)) {
		return api.OK
	}
	return f.Cache().Write(indirect, names...)
}
