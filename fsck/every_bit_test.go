package fsck

import (
	"bytes"
	"testing"

	"dunnage/api"
	"dunnage/inode"
)

// told is chapter 9's section 'Words' once more, of bare pages: what Check must tell, and whether all is as it must be.
// It goes the other way round than Check: by paths from the root on, and only at the end to what is taken.
type told struct {
	pages  [][]byte
	inodes int
	first  int
	names  []int // of each inode
	owners []int // of each page, how many name it
	Report
}

func number(b []byte) int {
	return int(b[0])<<24 | int(b[1])<<16 | int(b[2])<<8 | int(b[3])
}

func tell(pages [][]byte) (Report, bool) {
	x := &told{pages: pages, inodes: number(pages[0][8:12])}
	x.first = 3 + x.inodes/8
	x.names, x.owners = make([]int, x.inodes), make([]int, len(pages))
	x.names[root] = 1
	if x.place(root)[0] != 2 || !x.walk(root) {
		return Report{}, false
	}
	for i := 1; i < x.inodes; i++ {
		taken := x.bit(1, i)
		if taken != (x.names[i] > 0) || taken && number(append([]byte{0, 0}, x.place(i)[3:5]...)) != x.names[i] {
			return Report{}, false
		}
	}
	for n := x.first; n < len(pages); n++ {
		if owners := x.owners[n]; owners > 1 || x.bit(2, n) != (owners == 1) {
			return Report{}, false
		}
		x.Pages += x.owners[n]
	}
	return x.Report, true
}

func (x *told) bit(page, i int) bool {
	return x.pages[page][i/8]&(1<<(i%8)) != 0
}

func (x *told) place(i int) []byte {
	return x.pages[3+i/8][i%8*64:][:64]
}

// walk goes through an inode that has its first name, and all below.
func (x *told) walk(i int) bool {
	b := x.place(i)
	size := number(b[5:9])
	if int(b[1])*256+int(b[2]) > 4095 || size > api.MaxFile {
		return false
	}
	data, ok := x.data(b[9:], size)
	if !ok {
		return false
	}
	switch b[0] {
	case 1:
		x.Files++
		return true
	case 2:
		x.Dirs++
		return x.entries(data)
	case 3:
		x.Links++
		return size > 0 && size < 256
	}
	return false
}

// data are an inode's bytes, if its places are right: each page that it has gets an owner.
func (x *told) data(places []byte, size int) ([]byte, bool) {
	own := func(n int) bool {
		if n < x.first || n >= len(x.pages) {
			return false
		}
		x.owners[n]++
		return true
	}
	row := bytes.Clone(places[:4*api.Direct])
	if size <= 512*api.Direct {
		row = append(row, places[4*api.Direct:][:4]...)
	} else if n := number(places[4*api.Direct:]); own(n) {
		row = append(row, x.pages[n]...)
	} else {
		return nil, false
	}
	var data []byte
	for k := 0; k < len(row)/4; k++ {
		n := number(row[4*k:])
		if 512*k < size {
			if !own(n) {
				return nil, false
			}
			data = append(data, x.pages[n]...)
		} else if n != 0 {
			return nil, false
		}
	}
	return data[:size], true
}

func (x *told) entries(data []byte) bool {
	var names []string
	size := len(data)
	for ; len(data) >= 64; data = data[64:] {
		b := data[:64]
		if string(b) == string(make([]byte, 64)) {
			continue
		}
		i, length := number(b), int(b[4])
		if i < 2 || i >= x.inodes || !x.bit(1, i) || length > 59 {
			return false
		}
		name, rest := string(b[5:5+length]), b[5+length:]
		if name == "" || name == "." || name == ".." || bytes.IndexByte([]byte(name), 0) >= 0 || bytes.IndexByte([]byte(name), '/') >= 0 {
			return false
		}
		for _, octet := range rest {
			if octet != 0 {
				return false
			}
		}
		for _, other := range names {
			if other == name {
				return false
			}
		}
		names = append(names, name)
		if !x.enter(i) {
			return false
		}
	}
	return size%64 == 0 && (size == 0) == (len(names) == 0)
}

// enter is one more name of an inode.
func (x *told) enter(i int) bool {
	x.names[i]++
	if x.names[i] == 1 {
		return x.walk(i)
	}
	return x.place(i)[0] != 2
}

// wantTold: Check tells what the bare pages tell: whether all is as it must be.
func wantTold(t *testing.T, s *inode.Store) bool {
	t.Helper()
	r, e := Check(s)
	want, right := tell(bare(s))
	if r != want || right != (e == api.OK) || !right && e != api.ErrBroken {
		t.Fatalf("Check: %+v, error %d; the pages: %+v, %v", r, e, want, right)
	}
	return right
}

// meta are the pages of a planted tree that no file's bytes lie on.
func meta(s *inode.Store) []int {
	list := []int{1, 2}
	for n := 3; n < plantedFirst; n++ {
		list = append(list, n)
	}
	for _, i := range []int{root, folder} {
		pages, _ := s.Pages(i)
		list = append(list, pages...)
	}
	node, _ := s.Get(long)
	return append(list, node.Pages[api.Direct])
}

// P9.1, P9.2: each bit of all that is not a file's own bytes, turned by itself.
func TestEachBit(t *testing.T) {
	s := planted(t)
	if r, right := tell(bare(s)); r != plantedReport || !right {
		t.Fatalf("the bare pages tell %+v, %v", r, right)
	}
	sound := 0
	for _, n := range meta(s) {
		for at := range 8 * api.SectorBytes {
			flip(t, s, n, at)
			if wantTold(t, s) {
				sound++
			}
			flip(t, s, n, at)
		}
	}
	if sound < 1000 { // modes, names, spare bytes, what is free
		t.Errorf("only %d bits may be turned", sound)
	}
}

// row is numbers by a rule, each below a bound; others for each seed.
func row(seed uint32) func(below int) int {
	x := seed*2654435761 + 12345
	return func(below int) int {
		x = x*1664525 + 1013904223
		return int(x>>8) % below
	}
}

// P9.1: several bytes turned to small numbers, or to others that stand there already.
func TestSomeBytes(t *testing.T) {
	s := planted(t)
	pages, next := meta(s), row(7)
	wantError(t, "Commit", cacheOf(s).Commit(), api.OK)
	for range 8000 {
		for range 1 + next(3) {
			n, at := pages[next(len(pages))], next(api.SectorBytes)
			b, _ := cacheOf(s).Read(n)
			switch next(3) {
			case 0:
				poke(t, s, n, at, byte(next(64)))
			case 1:
				poke(t, s, n, at, b[next(len(b))])
			default:
				from, to := next(8)*64, next(8)*64
				poke(t, s, n, to, b[from:from+64]...) // an inode, or an entry, in another one's place
			}
		}
		wantTold(t, s)
		cacheOf(s).Abort()
	}
}
