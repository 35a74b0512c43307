package fsck

import (
	"iter"
	"slices"

	"dunnage/api"
	"dunnage/inode"
	"dunnage/octets"
)

const (
	root     = 1
	mostMode = 4095
)

// fault is what a search panics with: which of the chapter's five points does not hold.
type fault int

// need gives a search up, unless what a point asks for holds.
func need(point fault, holds bool) {
	if !holds {
		panic(point)
	}
}

// search is a check at work: the inodes, and what was seen of them.
type search struct {
	*inode.Store
	named  map[int]struct{} // the pages that inodes name
	inside map[int][]int    // of each directory, what its names stand for
}

func over(s *inode.Store) *search {
	return &search{s, map[int]struct{}{}, map[int][]int{}}
}

// all goes through the points in their order: each of them leans on those ahead of it.
func (x *search) all() Report {
	top, _ := x.Get(root)
	need(1, top.Kind == api.Dir)
	for _, node := range x.taken() {
		x.form(node)
	}
	for _, node := range x.taken() {
		x.pages(node)
	}
	x.lost()
	for i, node := range x.taken() {
		x.content(i, node)
	}
	x.links(x.reached())
	return x.report()
}

// taken yields all taken inodes but 0, rising.
func (x *search) taken() iter.Seq2[int, api.Inode] {
	return func(yield func(int, api.Inode) bool) {
		for i := root; i < x.Map().Inodes(); i++ {
			if node, e := x.Get(i); e == api.OK && !yield(i, node) {
				return
			}
		}
	}
}

// form is point 1, of one inode. (What is read from the table is never below 0.)
func (x *search) form(node api.Inode) {
	need(1, node.Kind >= api.File && node.Kind <= api.Link)
	need(1, node.Mode <= mostMode)
	need(1, node.Size <= api.MaxFile)
}

// pages is point 2, of one inode. In its row the indirect page stands behind those that it names by itself,
// so that of any size the places in use are the first ones.
func (x *search) pages(node api.Inode) {
	count := inode.Need(node.Size)
	x.row(count, node.Pages[:]...)
	if count > api.Direct {
		x.row(count-len(node.Pages), x.pointers(node.Pages[api.Direct])...)
	}
}

// pointers are the numbers in an indirect page.
func (x *search) pointers(page int) []int {
	b, _ := x.Map().Cache().Read(page)
	var numbers []int
	for four := range slices.Chunk(b, api.SectorBytes/api.Pointers) {
		numbers = append(numbers, octets.Number(four))
	}
	return numbers
}

// row is a row of places: the first ones, so many, name a page, and those behind them none.
func (x *search) row(count int, places ...int) {
	for k, n := range places {
		if k < count {
			x.name(n)
		} else {
			need(2, n == 0)
		}
	}
}

// name lets a page be named, which must be the first time. (One that does not exist is not taken.)
func (x *search) name(n int) {
	need(2, n >= x.Map().First() && x.Map().Used(n))
	_, twice := x.named[n]
	need(2, !twice)
	x.named[n] = struct{}{}
}

// lost is point 3.
func (x *search) lost() {
	for n := x.Map().First(); n < api.MaxSectors; n++ {
		if x.Map().Used(n) {
			_, named := x.named[n]
			need(3, named)
		}
	}
}

// content is point 4, of one inode.
func (x *search) content(i int, node api.Inode) {
	switch node.Kind {
	case api.Dir:
		need(4, node.Size%api.EntryBytes == 0)
		b, _ := x.Read(i, 0, node.Size)
		x.inside[i] = x.entries(b)
	case api.Link:
		need(4, node.Size >= 1 && node.Size <= api.MaxPath)
	}
}

// reached are the inodes to which the root leads, and how many names each of them has.
// The root has none; it counts as if it had one, since it has a link.
func (x *search) reached() map[int]int {
	names := map[int]int{root: 1}
	next := []int{root}
	for len(next) > 0 {
		last := len(next) - 1
		list := x.inside[next[last]]
		next = next[:last]
		for _, i := range list {
			names[i]++
			if _, isDir := x.inside[i]; isDir {
				need(5, names[i] == 1) // so no directory is entered twice, and the way ends
				next = append(next, i)
			}
		}
	}
	return names
}

// links is point 5, of all inodes.
func (x *search) links(names map[int]int) {
	for i, node := range x.taken() {
		need(5, names[i] > 0 && names[i] == node.Links)
	}
}

func (x *search) report() Report {
	r := Report{Pages: len(x.named)}
	for _, node := range x.taken() {
		switch node.Kind {
		case api.Dir:
			r.Dirs++
		case api.File:
			r.Files++
		case api.Link:
			r.Links++
		}
	}
	return r
}
