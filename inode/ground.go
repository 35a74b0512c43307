package inode

import (
	"dunnage/alloc"
	"dunnage/api"
	"dunnage/octets"
)

// Of an inode's place in the table: its bytes, and where what stands; the kind is the first byte.
const (
	inodeBytes = 64

	modeAt  = 1
	linksAt = 3
	sizeAt  = 5
	pagesAt = 9
)

const (
	mostMode  = 4095
	mostLinks = 65535
)

func isMode(mode int) bool {
	return mode >= 0 && mode <= mostMode
}

// ground is what inodes lie on: a map, and the pages of its cache.
type ground struct {
	*alloc.Map
}

// page is a page's bytes; noughts, if there is no such page: on a disk that nobody made an inode may name one.
func (g ground) page(n int) []byte {
	whole := make([]byte, api.SectorBytes)
	b, _ := g.Cache().Read(n)
	copy(whole, b)
	return whole
}

// get is what the table has in an inode's place.
func (g ground) get(i int) api.Inode {
	page, at, _ := g.Table(i)
	return decoded(g.page(page)[at:][:inodeBytes])
}

// put writes an inode to its place in the table.
func (g ground) put(i int, node api.Inode) api.Errno {
	page, at, _ := g.Table(i)
	table := g.page(page)
	copy(table[at:], encoded(node))
	return g.Cache().Write(page, table...)
}

func encoded(node api.Inode) []byte {
	b := make([]byte, inodeBytes)
	b[0] = byte(node.Kind)
	octets.Put(b[modeAt:linksAt], node.Mode)
	octets.Put(b[linksAt:sizeAt], node.Links)
	octets.Put(b[sizeAt:pagesAt], node.Size)
	for k, n := range node.Pages {
		octets.Put(fourth(b[pagesAt:], k), n)
	}
	return b
}

func decoded(b []byte) api.Inode {
	node := api.Inode{
		Kind:  api.Kind(b[0]),
		Mode:  octets.Number(b[modeAt:linksAt]),
		Links: octets.Number(b[linksAt:sizeAt]),
		Size:  octets.Number(b[sizeAt:pagesAt]),
	}
	for k := range node.Pages {
		node.Pages[k] = octets.Number(fourth(b[pagesAt:], k))
	}
	return node
}

// fourth are the four bytes of a page's number, of the k-th one of a row of them.
func fourth(row []byte, k int) []byte {
	return row[4*k:][:4]
}
