package alloc

import (
	"bytes"

	"dunnage/api"
	"dunnage/octets"
)

// Which page is what, and how inodes lie in the table, which ends ahead of First.
const (
	superblockAt = 0
	inodeBitsAt  = 1
	pageBitsAt   = 2
	tableAt      = 3

	inodeBytes = 64
	perPage    = api.SectorBytes / inodeBytes
)

// Of a superblock: its first bytes, and where its counts stand.
const (
	mark      = "\x44\x55\x4e\x31"
	pagesAt   = 4
	inodesAt  = 8
	countsEnd = 12
)

func first(inodes int) int {
	return tableAt + inodes/perPage
}

// mayBe tells whether so many pages can have so many inodes, and a page for files.
func mayBe(pages, inodes int) bool {
	if inodes < perPage || inodes > api.MaxInodes || inodes%perPage != 0 {
		return false
	}
	return pages > first(inodes) && pages <= api.MaxSectors
}

func superblock(pages, inodes int) []byte {
	b := noughts()
	copy(b, mark)
	octets.Put(b[pagesAt:inodesAt], pages)
	octets.Put(b[inodesAt:countsEnd], inodes)
	return b
}

// inodesOf is how many inodes a superblock tells; false, if it is none, or none of so many pages.
func inodesOf(b []byte, pages int) (int, bool) {
	inodes := octets.Number(b[inodesAt:countsEnd])
	// All else is right just if it is the superblock of these counts.
	return inodes, mayBe(pages, inodes) && bytes.Equal(b, superblock(pages, inodes))
}

// empty are all pages ahead of First, of a file system in which nothing is taken but what is always.
func (m *Map) empty() []api.Page {
	pages := []api.Page{
		{Number: superblockAt, Bytes: superblock(m.pages(), m.inodes)},
		{Number: inodeBitsAt, Bytes: m.ofInodes().alwaysTaken()},
		{Number: pageBitsAt, Bytes: m.ofPages().alwaysTaken()},
	}
	for n := tableAt; n < m.First(); n++ {
		pages = append(pages, api.Page{Number: n, Bytes: noughts()})
	}
	return pages
}

func noughts() []byte {
	return make([]byte, api.SectorBytes)
}
