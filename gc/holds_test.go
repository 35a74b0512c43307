package gc

import (
	"strconv"
	"testing"

	"dunnage/api"
	"dunnage/fsys"
)

// P15.3 and the chapter's example
func TestExample(t *testing.T) {
	s := stored(t, 120, 32)
	p, i := files(s).Free()
	l := tarOf(t, file("a", "x"))
	put(t, s, l)
	m := put(t, s, imageOf("os", l))
	wantError(t, "Tag", s.Tag("t", m), api.OK)
	wantError(t, "Release", s.Release(m), api.OK)
	wantError(t, "Release", s.Release(digest(l)), api.OK)
	if s.Count(digest(l)) != 1 || s.Count(m) != 1 || s.Holds(digest(l)) != 0 || s.Holds(m) != 0 {
		t.Errorf("counts: %d, %d", s.Count(digest(l)), s.Count(m))
	}
	wantError(t, "Untag", s.Untag("t"), api.OK)
	if s.Blobs().Has(digest(l)) || s.Blobs().Has(m) || s.Count(digest(l)) != 0 || s.Count(m) != 0 {
		t.Error("not gone")
	}
	if q, j := files(s).Free(); p != q || i != j {
		t.Errorf("%d pages, %d inodes are free, not %d, %d", q, j, p, i)
	}
}

// P15.1 (Put): blobs of no byte, of one, of MaxBlob bytes, and one more
func TestPutLengths(t *testing.T) {
	s, m := stored(t, 240, 32), newModel()
	for _, n := range []int{0, 1, 511, 512, 513, 5121, api.MaxBlob} {
		b := text(n, 1)
		wantError(t, "Put", second(s.Put(b...)), m.put(b))
		wantModel(t, "Put", s, m)
		commit(t, s)
	}
	for _, n := range []int{api.MaxBlob + 1, api.MaxFile, 2 * api.MaxFile} {
		wantRefused(t, "Put of "+strconv.Itoa(n), s, api.ErrLong, func() api.Errno { return second(s.Put(text(n, 1)...)) })
	}
}

// P15.1 (Put): ErrDigest, where the blob that is there has other bytes
func TestPutOfOthers(t *testing.T) {
	s, _ := planted(t)
	h := digest(plainText())
	digits := "/blobs/"
	for path := range pathsOf(t, files(s), "/blobs") {
		if b, e := files(s).Read(path); e == api.OK && string(b) == string(plainText()) {
			digits = path
		}
	}
	wantError(t, "Write", files(s).Write(digits, 292, 'x'), api.OK)
	wantRefused(t, "Put", s, api.ErrDigest, func() api.Errno { return second(s.Put(plainText()...)) })
	if s.Holds(h) != 1 {
		t.Errorf("%d holds", s.Holds(h))
	}
}

func pathsOf(t *testing.T, f *fsys.FS, path string) map[string]int {
	t.Helper()
	all := map[string]int{}
	found, e := f.Walk(path)
	wantError(t, "Walk", e, api.OK)
	for _, x := range found {
		all[x.Path] = x.Stat.Size
	}
	return all
}

// P15.1: each Put is one hold more, each Release one less; with the last one the blob goes.
func TestHolds(t *testing.T) {
	s, m := stored(t, 120, 32), newModel()
	b, other := []byte("abc"), []byte("other")
	put(t, s, other)
	m.put(other)
	for n := 1; n <= 300; n++ {
		put(t, s, b)
		m.put(b)
		if s.Holds(digest(b)) != n || s.Count(digest(b)) != n {
			t.Fatalf("%d holds, %d references, want %d", s.Holds(digest(b)), s.Count(digest(b)), n)
		}
	}
	wantModel(t, "300 holds", s, m)
	for n := 299; n >= 0; n-- {
		wantError(t, "Release", s.Release(digest(b)), m.release(digest(b)))
		if s.Holds(digest(b)) != n || s.Blobs().Has(digest(b)) != (n > 0) {
			t.Fatalf("%d holds, want %d", s.Holds(digest(b)), n)
		}
	}
	wantModel(t, "no holds", s, m)
	wantRefused(t, "Release of what is gone", s, api.ErrNone, func() api.Errno { return s.Release(digest(b)) })
}

// heldBy is a store in which a blob has so many holds. Its references are written past the calls: there are too many to put them one by one.
func heldBy(t *testing.T, b []byte, holds int) *Store {
	t.Helper()
	s, _ := planted(t)
	put(t, s, b)
	refs := changed(s, func(r references) { r.holds[digest(b)] = holds })
	wantError(t, "Write", files(s).Write("/refs", 420, refs...), api.OK)
	commit(t, s)
	return opened(t, files(s))
}

// P15.1 (Put): MaxHolds holds, and one more
func TestMaxHolds(t *testing.T) {
	b := []byte("held")
	h := digest(b)
	s := heldBy(t, b, api.MaxHolds-2)
	for n := api.MaxHolds - 1; n <= api.MaxHolds; n++ {
		put(t, s, b)
		if s.Holds(h) != n || s.Count(h) != n {
			t.Errorf("%d holds, %d references, want %d", s.Holds(h), s.Count(h), n)
		}
	}
	for range 2 {
		wantRefused(t, "one more", s, api.ErrRange, func() api.Errno { return second(s.Put(b...)) })
	}
	commit(t, s)
	s = opened(t, mounted(t, files(s).Disk()))
	if s.Holds(h) != api.MaxHolds {
		t.Errorf("%d holds, opened again", s.Holds(h))
	}
	if h, e := s.Put(b...); h != (api.Hash{}) || e != api.ErrRange {
		t.Errorf("one more: %x, error %d", h, e)
	}
	put(t, s, []byte("another one"))
	wantError(t, "Release", s.Release(h), api.OK)
	put(t, s, b)
	wantRefused(t, "one more", s, api.ErrRange, func() api.Errno { return second(s.Put(b...)) })
}

// P15.1, P15.3: MaxHolds holds, and references of words beside them
func TestMaxHoldsAndWords(t *testing.T) {
	image := imageOf("held")
	s := heldBy(t, image, api.MaxHolds)
	for _, word := range []string{"a", "b"} {
		wantError(t, "Tag", s.Tag(word, digest(image)), api.OK)
		wantError(t, "Pin", s.Pin(word, word), api.OK)
	}
	if n := s.Count(digest(image)); n != api.MaxHolds+4 || s.Holds(digest(image)) != api.MaxHolds {
		t.Errorf("%d references", n)
	}
	wantError(t, "Put", second(s.Put(image...)), api.ErrRange)
}

// P15.1 (Release): of what is not there, has no holds, or is referred to by a tag or a pin
func TestRelease(t *testing.T) {
	s, m := planted(t)
	for _, h := range []api.Hash{{}, digest(nil), digest([]byte("not there"))} {
		wantRefused(t, "Release of what is not there", s, api.ErrNone, func() api.Errno { return s.Release(h) })
	}
	for _, b := range [][]byte{plainText(), oneLayer(t), twoLayer(t), oneImage(t), bothImage(t), thriceImage(t)} {
		wantError(t, "Release", s.Release(digest(b)), m.release(digest(b)))
		wantModel(t, "Release", s, m)
		wantRefused(t, "Release again", s, api.ErrNone, func() api.Errno { return s.Release(digest(b)) })
	}
	for b, there := range map[string]bool{
		string(plainText()): false, string(thriceImage(t)): false, string(oneLayer(t)): true, string(twoLayer(t)): true, string(oneImage(t)): true, string(bothImage(t)): true,
	} {
		if s.Blobs().Has(digest([]byte(b))) != there {
			t.Errorf("%d bytes: there, unless %v", len(b), there)
		}
	}
	put(t, s, oneLayer(t))
	m.put(oneLayer(t))
	wantModel(t, "held again", s, m)
}

// P15.5 (E7), at the smallest: a Put and a Release
func TestPutAndRelease(t *testing.T) {
	s := stored(t, 240, 32)
	p, i := files(s).Free()
	for _, b := range [][]byte{nil, plainText(), text(6000, 1), text(api.MaxBlob, 1)} {
		for range 2 {
			put(t, s, b)
			put(t, s, b)
			wantError(t, "Release", s.Release(digest(b)), api.OK)
			if !s.Blobs().Has(digest(b)) {
				t.Error("a blob that is held is gone")
			}
			wantError(t, "Release", s.Release(digest(b)), api.OK)
			if q, j := files(s).Free(); p != q || i != j {
				t.Errorf("%d pages, %d inodes are free, not %d, %d", q, j, p, i)
			}
			commit(t, s)
		}
	}
}

// P15.1: many blobs at once; what is put of one changes nothing of another one.
func TestManyBlobs(t *testing.T) {
	s, m := stored(t, 1200, 256), newModel()
	for n := range 100 {
		for range 1 + n%3 {
			put(t, s, text(n*13, n))
			m.put(text(n*13, n))
		}
		commit(t, s)
	}
	wantModel(t, "100 blobs", s, m)
	s = opened(t, mounted(t, files(s).Disk()))
	for n := range 100 {
		h := digest(text(n*13, n))
		wantError(t, "Release", s.Release(h), m.release(h))
	}
	wantModel(t, "each released once", s, m)
}
