package alloc

import (
	"bytes"
	"iter"
	"slices"

	"dunnage/api"
)

// numbers are those of all pages, or of all inodes.
type numbers struct {
	bitsAt int        // the page of their bits
	first  int        // those ahead of it are always taken
	end    int        // how many there are
	worth  complex128 // of a free one, where pages and inodes are counted together
}

func (m *Map) ofPages() numbers {
	return numbers{pageBitsAt, m.First(), m.pages(), 1}
}

func (m *Map) ofInodes() numbers {
	return numbers{inodeBitsAt, 1, m.inodes, 1i}
}

func (m *Map) pages() int {
	return m.cache.Log().Pages()
}

// has tells whether n is a number that may be taken and given back.
func (k numbers) has(n int) bool {
	return n >= k.first && n < k.end
}

func (k numbers) alwaysTaken() []byte {
	bits := noughts()
	for n := range k.first {
		flip(bits, n)
	}
	return bits
}

// free yields the free ones, rising.
func (k numbers) free(bits []byte) iter.Seq[int] {
	return func(yield func(int) bool) {
	all:
		for at := range bits {
			for n := 8 * at; n < 8*at+8; n++ {
				if n >= k.end {
					break all
				}
				if n >= k.first && !isSet(bits, n) && !yield(n) {
					break all
				}
			}
		}
	}
}

func isSet(bits []byte, n int) bool {
	return bits[n/8]>>(n%8)&1 == 1
}

func flip(bits []byte, n int) {
	bits[n/8] ^= 1 << (n % 8)
}

func (m *Map) bits(k numbers) []byte {
	b, _ := m.cache.Read(k.bitsAt)
	return b
}

// taken does not ask the bits of those that are always taken: an Abort of all that Make wrote forgets them.
func (m *Map) taken(k numbers, n int) bool {
	if k.has(n) {
		return isSet(m.bits(k), n)
	}
	return n >= 0 && n < k.first
}

// count is what all free ones are worth together.
func (m *Map) count(kinds ...numbers) complex128 {
	var sum complex128
	for _, k := range kinds {
		for range k.free(m.bits(k)) {
			sum += k.worth
		}
	}
	return sum
}

// nextFree is the first free one, and its bits' page as it must be written then.
func (m *Map) nextFree(k numbers) (int, api.Page, api.Errno) {
	bits := m.bits(k)
	for n := range k.free(bits) {
		flip(bits, n)
		return n, api.Page{Number: k.bitsAt, Bytes: bits}, api.OK
	}
	return 0, api.Page{}, api.ErrFull
}

func (m *Map) give(k numbers, n int) api.Errno {
	if !k.has(n) {
		return api.ErrRange
	}
	bits := m.bits(k)
	if !isSet(bits, n) {
		return api.ErrNone
	}
	flip(bits, n)
	return m.write(api.Page{Number: k.bitsAt, Bytes: bits})
}

// cleared is the table's page with noughts in an inode's place; false, if they are there already,
// as they are but where one that was not empty was given back.
func (m *Map) cleared(i int) (api.Page, bool) {
	page, at, _ := m.Table(i)
	b, _ := m.cache.Read(page)
	was := bytes.Clone(b)
	clear(b[at : at+inodeBytes])
	return api.Page{Number: page, Bytes: b}, !bytes.Equal(b, was)
}

// write writes all of these pages, or, if the cache has not room for all of them, none.
func (m *Map) write(pages ...api.Page) api.Errno {
	dirty := m.cache.Dirty()
	more := 0
	for _, p := range pages {
		if _, already := slices.BinarySearch(dirty, p.Number); !already {
			more++
		}
	}
	if more > m.cache.Room() {
		return api.ErrFull
	}
	for _, p := range pages {
		m.cache.Write(p.Number, p.Bytes...)
	}
	return api.OK
}

// answer is a number, but none beside an error.
func answer(n int, e api.Errno) (int, api.Errno) {
	if e != api.OK {
		return 0, e
	}
	return n, api.OK
}
