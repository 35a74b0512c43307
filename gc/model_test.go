package gc

import (
	"bytes"
	"fmt"
	"maps"
	"slices"
	"testing"

	"dunnage/api"
	"dunnage/fsck"
	"dunnage/layer"
	"dunnage/manifest"
	"dunnage/union"
)

// kept is what a Commit keeps of the model.
type kept struct {
	blobs      map[api.Hash][]byte
	holds      map[api.Hash]int
	tags, pins map[string]api.Hash
	trees      map[string][]api.Node
}

func (k kept) clone() kept {
	return kept{maps.Clone(k.blobs), maps.Clone(k.holds), maps.Clone(k.tags), maps.Clone(k.pins), maps.Clone(k.trees)}
}

// model is a second store, by the chapter's words: maps alone, and each count reckoned from its beginning.
type model struct {
	kept
	last kept
}

func newModel() *model {
	m := &model{kept: kept{map[api.Hash][]byte{}, map[api.Hash]int{}, map[string]api.Hash{}, map[string]api.Hash{}, map[string][]api.Node{}}}
	m.commit()
	return m
}

func (m *model) commit() {
	m.last = m.kept.clone()
}

func (m *model) abort() {
	m.kept = m.last.clone()
}

func (m *model) count(h api.Hash) int {
	n := m.holds[h]
	stood := map[api.Hash]bool{}
	for _, words := range []map[string]api.Hash{m.tags, m.pins} {
		for _, x := range words {
			stood[x] = true
			if x == h {
				n++
			}
		}
	}
	for x := range stood {
		image, _ := manifest.Decode(m.blobs[x])
		n += manifest.Uses(image, h)
	}
	return n
}

// collect lets go what has no reference.
func (m *model) collect() {
	gone := map[api.Hash]bool{}
	for h := range m.blobs {
		gone[h] = m.count(h) == 0
	}
	maps.DeleteFunc(m.blobs, func(h api.Hash, _ []byte) bool { return gone[h] })
}

func (m *model) put(b []byte) api.Errno {
	if len(b) > api.MaxBlob {
		return api.ErrLong
	}
	m.blobs[digest(b)] = b
	m.holds[digest(b)]++
	return api.OK
}

func (m *model) release(h api.Hash) api.Errno {
	if m.holds[h] == 0 {
		return api.ErrNone
	}
	m.holds[h]--
	m.collect()
	return api.OK
}

func (m *model) tag(word string, h api.Hash) api.Errno {
	b, there := m.blobs[h]
	image, e := manifest.Decode(b)
	_, known := m.tags[word]
	switch {
	case !manifest.IsWord(word):
		return api.ErrName
	case !there:
		return api.ErrNone
	case e != api.OK:
		return api.ErrForm
	}
	for _, l := range image.Layers {
		if _, ok := m.blobs[l]; !ok {
			return api.ErrNone
		}
	}
	if !known && len(m.tags) == api.MaxTags {
		return api.ErrLong
	}
	m.tags[word] = h
	m.collect()
	return api.OK
}

func (m *model) untag(word string) api.Errno {
	if _, ok := m.tags[word]; !ok {
		return api.ErrNone
	}
	delete(m.tags, word)
	m.collect()
	return api.OK
}

func (m *model) pin(word, tag string) api.Errno {
	h, ok := m.tags[tag]
	_, known := m.pins[word]
	switch {
	case !manifest.IsWord(word):
		return api.ErrName
	case !ok:
		return api.ErrNone
	case known:
		return api.ErrKnown
	case len(m.pins) == api.MaxPins:
		return api.ErrLong
	}
	image, _ := manifest.Decode(m.blobs[h])
	var all [][]api.Change
	for _, l := range image.Layers {
		changes, e := layer.Read(m.blobs[l])
		if e != api.OK {
			return api.ErrLayer
		}
		all = append(all, changes)
	}
	tree, e := union.Fold(all...)
	if e != api.OK {
		return api.ErrLayer
	}
	m.pins[word], m.trees[word] = h, tree
	return api.OK
}

func (m *model) unpin(word string) api.Errno {
	if _, ok := m.pins[word]; !ok {
		return api.ErrNone
	}
	delete(m.pins, word)
	delete(m.trees, word)
	m.collect()
	return api.OK
}

// wantModel: a store tells what the model tells, has it on its file system and nothing else, and all is sound.
func wantModel(t *testing.T, what string, s *Store, m *model) {
	t.Helper()
	wantWords(t, what+": tags", s.Tags(), s.Tagged, m.tags)
	wantWords(t, what+": pins", s.Pins(), s.Pinned, m.pins)
	rising := slices.SortedFunc(maps.Keys(m.blobs), func(a, b api.Hash) int { return bytes.Compare(a[:], b[:]) })
	if list, e := s.Blobs().List(); !slices.Equal(list, rising) || e != api.OK {
		t.Errorf("%s: blobs %x, error %d, want %x", what, list, e, rising)
	}
	for _, h := range append(rising, api.Hash{}, digest([]byte("nobody's"))) {
		b, _ := s.Blobs().Get(h)
		if s.Count(h) != m.count(h) || s.Holds(h) != m.holds[h] || !bytes.Equal(b, m.blobs[h]) {
			t.Errorf("%s: of %x: %d references, %d holds, want %d, %d", what, h[:3], s.Count(h), s.Holds(h), m.count(h), m.holds[h])
		}
	}
	wantError(t, what+": Audit", s.Audit(), api.OK)
	wantError(t, what+": Check", second(fsck.Check(files(s).Inodes())), api.OK)
	wantFiles(t, what, s, m)
}

func wantWords(t *testing.T, what string, words []string, asked func(string) (api.Hash, api.Errno), want map[string]api.Hash) {
	t.Helper()
	if !slices.Equal(words, slices.Sorted(maps.Keys(want))) {
		t.Errorf("%s: %q, want %v", what, words, want)
	}
	for _, word := range append(words, "nobody", "", "No Word") {
		expected := api.OK
		if _, ok := want[word]; !ok {
			expected = api.ErrNone
		}
		if h, e := asked(word); h != want[word] || e != expected {
			t.Errorf("%s: %q: %x, error %d, want %x, %d", what, word, h, e, want[word], expected)
		}
	}
}

// wantFiles: what chapter 15 says of the file system.
func wantFiles(t *testing.T, what string, s *Store, m *model) {
	t.Helper()
	want := []string{"blobs", "refs", "roots"}
	if len(m.blobs) == 0 {
		want = []string{"blobs", "roots"}
	}
	if names, e := files(s).List("/"); !slices.Equal(names, want) || e != api.OK {
		t.Errorf("%s: / has %q, error %d, want %q", what, names, e, want)
	}
	if names, e := files(s).List("/roots"); !slices.Equal(names, slices.Sorted(maps.Keys(m.pins))) || e != api.OK {
		t.Errorf("%s: /roots has %q, error %d", what, names, e)
	}
	for word, tree := range m.trees {
		got, e := union.Tree(files(s), "/roots/"+word)
		if fmt.Sprint(got) != fmt.Sprint(tree) || e != api.OK {
			t.Errorf("%s: the tree of %s: %v, error %d", what, word, got, e)
		}
	}
}

// row is numbers by a rule, each below a bound; others for each seed.
func row(seed uint32) func(below int) int {
	x := seed*2654435761 + 12345
	return func(below int) int {
		x = x*1664525 + 1013904223
		return int(x>>8) % below
	}
}

// game is a store and its model.
type game struct {
	s    *Store
	m    *model
	seen map[string]int // how often a call had an error
}

// wantDone: a call has the model's error; where there is no room, the model forgets what the store has forgotten.
func (g *game) wantDone(t *testing.T, what string, got api.Errno, model func() api.Errno) {
	t.Helper()
	g.seen[fmt.Sprint(what, " ", int(got))]++
	if got == api.ErrFull {
		g.m.abort()
		return
	}
	wantError(t, what, got, model())
}

// somePool are the blobs of the games: layers of which some can't be read, or not be folded, or not be laid out; and manifests of them.
func somePool(t *testing.T) [][]byte {
	t.Helper()
	deep := tarOf(t, directory(string(bytes.Repeat([]byte("d/"), api.MaxDepth))))
	layers := [][]byte{
		oneLayer(t), twoLayer(t), tarOf(t), tarOf(t, file("big", string(text(9000, 3)))), tarOf(t, file("a/b", "under")),
		tarOf(t, api.Entry{Name: "h", Kind: api.Hard, Link: "a"}), plainText(), {}, deep,
	}
	pool := slices.Clone(layers)
	for k, l := range layers {
		pool = append(pool, imageOf("k", l), imageOf("k", layers[0], l), imageOf("k", l, l, layers[(k+1)%len(layers)]))
	}
	return append(pool, imageOf("empty"), imageOf("lost", []byte("not there")))
}

// pick is one of some things; mostly, if there are such, one of those that are known.
func pick[T any](next func(int) int, all, known []T) T {
	if len(known) > 0 && next(4) > 0 {
		return known[next(len(known))]
	}
	return all[next(len(all))]
}

// blob is one that may be tagged or released: mostly one that is there, and of these mostly a manifest.
func (g *game) blob(next func(int) int, pool [][]byte) []byte {
	var known [][]byte
	for _, b := range pool {
		if _, ok := g.m.blobs[digest(b)]; ok && (next(5) == 0 || bytes.HasPrefix(b, []byte("DM"))) {
			known = append(known, b)
		}
	}
	return pick(next, pool, known)
}

// do is one call, by the row.
func (g *game) do(t *testing.T, next func(int) int, pool [][]byte) {
	t.Helper()
	words := []string{"a", "b", "c", "d", "e", "f", "g", "h", "i", "j", "no word", "", longWord(25), longWord(24)}
	word, b := words[next(len(words))], g.blob(next, pool)
	switch k := next(26); {
	case k < 2:
		commit(t, g.s)
		g.m.commit()
	case k < 3:
		wantError(t, "Abort", g.s.Abort(), api.OK)
		g.m.abort()
	case k < 4:
		g.s = opened(t, mounted(t, files(g.s).Disk()))
		g.m.abort()
	case k < 11:
		b := pool[next(len(pool))]
		g.wantDone(t, "Put", second(g.s.Put(b...)), func() api.Errno { return g.m.put(b) })
	case k < 14:
		g.wantDone(t, "Release", g.s.Release(digest(b)), func() api.Errno { return g.m.release(digest(b)) })
	case k < 18:
		g.wantDone(t, "Tag", g.s.Tag(word, digest(b)), func() api.Errno { return g.m.tag(word, digest(b)) })
	case k < 19:
		word := pick(next, words, g.s.Tags())
		g.wantDone(t, "Untag", g.s.Untag(word), func() api.Errno { return g.m.untag(word) })
	case k < 24:
		g.pin(t, pick(next, words, words[:10]), pick(next, words, g.s.Tags()))
	default:
		word := pick(next, words, g.s.Pins())
		g.wantDone(t, "Unpin", g.s.Unpin(word), func() api.Errno { return g.m.unpin(word) })
	}
}

// pin: union.Lay has an error of its own, where a tree is too deep to lie below /roots and the word.
func (g *game) pin(t *testing.T, word, tag string) {
	t.Helper()
	g.wantDone(t, "Pin", g.s.Pin(word, tag), func() api.Errno {
		before := g.m.kept.clone()
		e := g.m.pin(word, tag)
		for _, n := range g.m.trees[word] {
			if e == api.OK && bytes.Count([]byte(n.Path), []byte("/")) > api.MaxDepth-2 {
				g.m.kept = before
				return api.ErrName
			}
		}
		return e
	})
}

// P15.1 to P15.7, E1, E4, E5, E6, E7: many calls, held against the model; at the end all goes, and all room is free again.
func TestAgainstTheModel(t *testing.T) {
	seen := map[string]int{}
	pool := somePool(t)
	for seed := range uint32(16) {
		next := row(seed)
		g := &game{stored(t, 70+next(5)*60, 8*(4+next(10))), newModel(), seen}
		p, i := files(g.s).Free()
		for range 200 {
			g.do(t, next, pool)
			wantModel(t, "a game", g.s, g.m)
			if t.Failed() {
				t.Fatalf("seed %d", seed)
			}
		}
		g.empty(t)
		wantModel(t, "all gone", g.s, g.m)
		if q, j := files(g.s).Free(); p != q || i != j {
			t.Errorf("seed %d: %d pages and %d inodes are free, at first %d and %d", seed, q, j, p, i)
		}
	}
	for _, what := range []string{
		"Put 0", "Put 7", "Release 0", "Release 4", "Tag 0", "Tag 3", "Tag 4", "Tag 8", "Untag 0", "Untag 4",
		"Pin 0", "Pin 4", "Pin 5", "Pin 7", "Pin 8", "Pin 13", "Unpin 0", "Unpin 4",
	} {
		if seen[what] < 3 {
			t.Errorf("%s: %d times; all: %v", what, seen[what], seen)
		}
	}
}

// empty lets all references go, each by itself, and commits.
func (g *game) empty(t *testing.T) {
	t.Helper()
	done := func(what string, got, want api.Errno) {
		wantError(t, what, got, api.OK)
		wantError(t, what, want, api.OK)
		commit(t, g.s)
		g.m.commit()
	}
	commit(t, g.s)
	g.m.commit()
	for _, word := range g.s.Pins() {
		done("Unpin", g.s.Unpin(word), g.m.unpin(word))
	}
	for _, word := range g.s.Tags() {
		done("Untag", g.s.Untag(word), g.m.untag(word))
	}
	list, _ := g.s.Blobs().List()
	for _, h := range list {
		for range g.s.Holds(h) {
			done("Release", g.s.Release(h), g.m.release(h))
		}
	}
}
