package inode

import (
	"bytes"
	"slices"
	"testing"

	"dunnage/api"
)

// row answers numbers below a bound, each run the same ones.
func row(seed uint32) func(int) int {
	return func(bound int) int {
		seed = seed*1664525 + 1013904223
		return int(seed>>8) % bound
	}
}

// thing is an inode by the document's words alone.
type thing struct {
	kind        api.Kind
	mode, links int
	b           []byte
}

// model is all inodes; what is not taken is nil.
type model []*thing

func (m model) clone() model {
	c := make(model, len(m))
	for i, x := range m {
		if x != nil {
			copied := *x
			copied.b = bytes.Clone(x.b)
			c[i] = &copied
		}
	}
	return c
}

func (m model) at(i int) (*thing, api.Errno) {
	switch {
	case i < 1 || i >= len(m):
		return nil, api.ErrRange
	case m[i] == nil:
		return nil, api.ErrNone
	}
	return m[i], api.OK
}

func (m model) make(k api.Kind, mode int) int {
	for i := 1; i < len(m); i++ {
		if m[i] == nil {
			m[i] = &thing{kind: k, mode: mode, links: 1}
			return i
		}
	}
	return 0
}

func (x *thing) resize(size int) {
	x.b = append(x.b, make([]byte, max(0, size-len(x.b)))...)[:size]
}

func (x *thing) write(at int, b []byte) {
	x.resize(max(len(x.b), at+len(b)))
	copy(x.b[at:], b)
}

// pages is how many all of them need.
func (m model) pages() int {
	sum := 0
	for _, x := range m {
		if x == nil {
			continue
		}
		data := (len(x.b) + 511) / 512
		if sum += data; data > 10 {
			sum++
		}
	}
	return sum
}

func (m model) check(t *testing.T, s *Store) {
	t.Helper()
	taken := 1
	for i := 1; i < len(m); i++ {
		x, want := m.at(i)
		node, e := s.Get(i)
		if e != want {
			t.Fatalf("Get(%d): error %d, want %d", i, e, want)
		}
		if x == nil {
			continue
		}
		taken++
		if node.Kind != x.kind || node.Mode != x.mode || node.Links != x.links {
			t.Fatalf("Get(%d): %v, want %v", i, node, x)
		}
		wantBytes(t, "the model", s, i, x.b)
	}
	total := cacheOf(s).Log().Pages() - s.Map().First()
	if p, i := s.Map().Free(); p != total-m.pages() || i != len(m)-taken {
		t.Fatalf("%d pages and %d inodes are free, want %d and %d", p, i, total-m.pages(), len(m)-taken)
	}
}

// game is a store, its model, and the model as it was at the last Commit.
type game struct {
	s       *Store
	m, last model
	next    func(int) int
	refused int
}

// size is one of the edges' sizes, or another one, not too great for the cache.
func (g *game) size() int {
	edges := []int{0, 1, 511, 512, 513, 1024, 5119, 5120, 5121, 5632, 5633}
	if k := g.next(2 * len(edges)); k < len(edges) {
		return edges[k]
	}
	return g.next(14000)
}

// step does one call; what is done to the model if the call is done is answered with its errors.
func (g *game) step() (api.Errno, api.Errno, func()) {
	i := g.next(len(g.m)+2) - 1
	x, e := g.m.at(i)
	switch at, b := g.size(), text(g.next(3)*g.size()/2, g.next(99)); g.next(8) {
	case 0:
		kind, mode := api.Kind(1+g.next(3)), g.next(4096)
		n, got := g.s.Make(kind, mode)
		return got, api.OK, func() {
			if want := g.m.make(kind, mode); n != want {
				panic("another inode was made")
			}
		}
	case 1:
		mode, links := g.next(4096), g.next(65536)
		return g.s.Set(i, mode, links), e, func() { x.mode, x.links = mode, links }
	case 2:
		return g.s.Drop(i), e, func() { g.m[i] = nil }
	case 3, 4:
		return g.s.Resize(i, at), e, func() { x.resize(at) }
	default:
		return g.s.Write(i, at, b...), e, func() {
			if len(b) > 0 {
				x.write(at, b)
			}
		}
	}
}

func (g *game) play(t *testing.T) {
	t.Helper()
	switch g.next(10) {
	case 0:
		commit(t, g.s)
		g.last = g.m.clone()
		g.s = again(t, cacheOf(g.s).Log().Disk())
	case 1:
		cacheOf(g.s).Abort()
		g.m = g.last.clone()
	default:
		e, want, do := g.step()
		switch {
		case e == api.ErrFull && want == api.OK:
			g.m = g.last.clone()
			g.refused++
			if len(cacheOf(g.s).Dirty()) != 0 {
				t.Fatal("no room, and the cache is not aborted")
			}
		case e != want:
			t.Fatalf("error %d, want %d", e, want)
		case e == api.OK:
			do()
		}
	}
	g.m.check(t, g.s)
	wantSound(t, g.s)
}

// P6.1 to P6.6, E1, E4, E7
func TestAgainstTheModel(t *testing.T) {
	refused := 0
	for seed := range uint32(12) {
		next := row(seed)
		inodes := 8 * (1 + next(2))
		m := make(model, inodes)
		g := &game{stored(t, 60+next(100), inodes), m, m.clone(), next, 0}
		for range 150 {
			g.play(t)
		}
		refused += g.refused
	}
	if refused == 0 {
		t.Error("there was room always")
	}
}

// P6.4: pieces of the greatest file, one over the other.
func TestPiecesOfTheGreatestFile(t *testing.T) {
	s := stored(t, 200, 8)
	i := newFile(t, s, nil)
	next := row(5)
	want := thing{}
	for range 60 {
		at := next(api.MaxFile)
		b := text(min(next(9000), api.MaxFile-at), next(99))
		if len(b) == 0 {
			continue
		}
		if wide := s.Resize(i, max(len(want.b), at/2)); wide == api.OK { // so that no write needs more than a group
			want.resize(max(len(want.b), at/2))
		}
		commit(t, s)
		wantError(t, "Write", s.Write(i, at, b...), api.OK)
		want.write(at, b)
		commit(t, s)
		wantBytes(t, "pieces", s, i, want.b)
		for range 5 {
			from, n := next(len(want.b)), next(6000)
			got, e := s.Read(i, from, n)
			if e != api.OK || !bytes.Equal(got, want.b[from:min(from+n, len(want.b))]) {
				t.Fatalf("Read(%d, %d): %d bytes, error %d", from, n, len(got), e)
			}
		}
	}
	wantSound(t, s)
}

// Of a disk that nobody made nothing is promised; but a check of it goes through these calls, and they must end.
func TestNobodyMadeIt(t *testing.T) {
	s := stored(t, 40, 8)
	next := row(3)
	for range 300 {
		table := make([]byte, api.SectorBytes)
		for at := range table {
			if next(3) > 0 {
				table[at] = byte(next(256)) >> next(8)
			}
		}
		wantError(t, "Write", cacheOf(s).Write(3, table...), api.OK)
		wantError(t, "Write", cacheOf(s).Write(1, full(next(256))...), api.OK)
		for i := range 8 {
			node, _ := s.Get(i)
			s.Pages(i)
			s.Read(i, next(2)*node.Size/2, node.Size)
			s.Write(i, next(api.MaxFile), 1, 2, 3)
			s.Resize(i, next(api.MaxFile))
			s.Drop(i)
		}
		cacheOf(s).Abort()
	}
	if got := all(s); !slices.Equal(got[3], full(0)) {
		t.Error("an Abort has not forgotten all")
	}
}
