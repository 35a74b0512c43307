package gc

import (
	"bytes"
	"maps"
	"slices"
	"strconv"
	"testing"

	"dunnage/api"
	"dunnage/blob"
	"dunnage/fsck"
	"dunnage/fsys"
)

// P15.1 (Open): of a new file system; of one where the blobs are there already
func TestOpen(t *testing.T) {
	f := made(t, 60, 16)
	s := opened(t, f)
	wantModel(t, "a new one", s, newModel())
	if x, e := f.Stat("/roots"); e != api.OK || x != (api.Stat{Kind: api.Dir, Mode: 493, Links: 1}) {
		t.Errorf("/roots: %+v, error %d", x, e)
	}
	if s.Blobs().FS() != f {
		t.Error("not its file system")
	}
	commit(t, s)
	wantStill(t, "opened again", f, func() { opened(t, f) })
	f = made(t, 60, 16)
	if _, e := blob.New(f); e != api.OK {
		t.Fatal(e)
	}
	wantModel(t, "with /blobs", opened(t, f), newModel())
}

// P15.1 (Open): nothing is committed by it.
func TestOpenDoesNotCommit(t *testing.T) {
	f := made(t, 60, 16)
	wantError(t, "Write", f.Write("/mine", 420, 'x'), api.OK)
	ops := f.Disk().Ops()
	s := opened(t, f)
	if f.Disk().Ops() != ops {
		t.Error("something was committed")
	}
	wantError(t, "Abort", s.Abort(), api.OK)
	if names, _ := f.List("/"); len(names) != 0 {
		t.Errorf("behind Abort: %q", names)
	}
}

// P15.1: where what Open made was not committed, and is forgotten, the store goes on, and makes it anew when something is put.
func TestOpenForgotten(t *testing.T) {
	for _, forget := range []func(s *Store) api.Errno{
		func(s *Store) api.Errno { return s.Abort() },
		func(s *Store) api.Errno { return files(s).Abort() },
		func(s *Store) api.Errno { crowd(t, s, 0); s.Put('x'); return api.OK },
	} {
		s, m := opened(t, made(t, 120, 32)), newModel()
		p, i := files(s).Free()
		wantError(t, "forgetting", forget(s), api.OK)
		if names, _ := files(s).List("/"); len(names) != 0 {
			t.Errorf("forgotten: %q", names)
		}
		wantError(t, "Audit", s.Audit(), api.OK)
		wantError(t, "Untag", s.Untag("x"), api.ErrNone)
		for _, b := range [][]byte{oneLayer(t), oneImage(t)} {
			put(t, s, b)
			m.put(b)
			wantModel(t, "put", s, m)
		}
		wantError(t, "Tag", s.Tag("t", digest(oneImage(t))), m.tag("t", digest(oneImage(t))))
		wantError(t, "Pin", s.Pin("p", "t"), m.pin("p", "t"))
		wantModel(t, "pinned", s, m)
		g := &game{s: s, m: m}
		g.empty(t)
		if q, j := files(s).Free(); p != q || i != j {
			t.Errorf("%d pages and %d inodes are free, behind Open %d and %d", q, j, p, i)
		}
	}
}

// refsOf are the bytes of /refs of a store.
func refsOf(t *testing.T, s *Store) []byte {
	t.Helper()
	b, e := files(s).Read("/refs")
	wantError(t, "Read", e, api.OK)
	return b
}

// wantNone: a file system can't be opened with such a /refs; nothing of it changes.
func wantNone(t *testing.T, what string, f *fsys.FS, refs []byte) {
	t.Helper()
	wantError(t, "Write", f.Write("/refs", 420, refs...), api.OK)
	wantStill(t, what, f, func() {
		if s, e := Open(f); s != nil || e != api.ErrBroken {
			t.Errorf("%s: error %d", what, e)
		}
	})
}

// P15.1 (ErrBroken): /refs with any bit changed, cut at any place, with anything behind it
func TestRefsThatAreNone(t *testing.T) {
	s, m := planted(t)
	f, refs := files(s), refsOf(t, s)
	for at := range refs {
		for bit := range 8 {
			wrong := bytes.Clone(refs)
			wrong[at] ^= 1 << bit
			if bit == at%8 || at < 8 {
				wantNone(t, "a bit", f, wrong)
			}
		}
		wantNone(t, "cut short", f, refs[:at])
	}
	for _, more := range [][]byte{{0}, {1}, refs} {
		wantNone(t, "something behind it", f, slices.Concat(refs, more))
		wantNone(t, "something ahead of it", f, slices.Concat(more, refs))
	}
	wantNone(t, "nothing", f, nil)
	wantNone(t, "a text", f, []byte("x"))
	wantNone(t, "long", f, text(30000, 1))
	wantNone(t, "bytes of one kind", f, bytes.Repeat([]byte{255}, 3000))
	wantError(t, "Write", f.Write("/refs", 420, refs...), api.OK)
	wantModel(t, "written again", opened(t, f), m)
}

// changed are the bytes of a store's references with something about them changed.
func changed(s *Store, change func(r references)) []byte {
	s.recall()
	change(s.on.references)
	return s.on.encoded()
}

// P15.1 (ErrBroken): references that no call leaves behind, though their bytes are of that form
func TestRefsOfTheFormThatAreNone(t *testing.T) {
	h := digest([]byte("x"))
	for what, change := range map[string]func(r references){
		"no holds":            func(r references) { r.holds[h] = 0 },
		"too many holds":      func(r references) { r.holds[h] = api.MaxHolds + 1 },
		"a tag's word":        func(r references) { r.tags["No"] = h },
		"an empty word":       func(r references) { r.pins[""] = h },
		"too long a word":     func(r references) { r.pins[longWord(25)] = h },
		"as long as can be":   func(r references) { r.tags[longWord(255)] = h },
		"too many tags":       func(r references) { fill(r.tags, api.MaxTags+1, h) },
		"too many pins":       func(r references) { fill(r.pins, api.MaxPins+1, h) },
		"many tags":           func(r references) { fill(r.tags, 255, h) },
		"words of other form": func(r references) { r.tags["a b"] = h },
	} {
		s, _ := planted(t)
		wantNone(t, what, files(s), changed(s, change))
	}
	s, _ := planted(t)
	wantError(t, "Write", files(s).Write("/refs", 420, changed(s, func(r references) {
		r.holds[h] = api.MaxHolds
		fill(r.tags, api.MaxTags, h)
		fill(r.pins, api.MaxPins, h)
	})...), api.OK)
	if again := opened(t, files(s)); again.Holds(h) != api.MaxHolds || len(again.Tags()) != api.MaxTags || len(again.Pins()) != api.MaxPins {
		t.Error("as many as may be")
	}
}

// fill lets there be so many words.
func fill(words map[string]api.Hash, n int, h api.Hash) {
	for k := 0; len(words) < n; k++ {
		words["fill-"+strconv.Itoa(k)] = h
	}
}

// P15.1 (ErrBroken): /refs that leads to no file, /roots to no directory, /blobs to none; P2: nothing changes
func TestOpenBroken(t *testing.T) {
	for what, plant := range map[string]func(f *fsys.FS) api.Errno{
		"/refs is a directory":      func(f *fsys.FS) api.Errno { return f.Mkdir("/refs", 493) },
		"/refs is a link":           func(f *fsys.FS) api.Errno { return f.Symlink("/refs", "/x") },
		"/refs is empty":            func(f *fsys.FS) api.Errno { return f.Write("/refs", 420) },
		"/roots is a file":          func(f *fsys.FS) api.Errno { return f.Write("/roots", 420) },
		"/roots is a link":          func(f *fsys.FS) api.Errno { return f.Symlink("/roots", "/") },
		"/blobs is a file":          func(f *fsys.FS) api.Errno { return f.Write("/blobs", 420) },
		"/blobs is a link":          func(f *fsys.FS) api.Errno { return f.Symlink("/blobs", "/") },
		"/roots is there":           func(f *fsys.FS) api.Errno { f.Mkdir("/roots", 7); return f.Write("/refs", 420) },
		"/roots is there with some": func(f *fsys.FS) api.Errno { f.Mkdir("/roots", 7); f.Mkdir("/roots/x", 7); return f.Write("/refs", 420) },
		"/blobs is there":           func(f *fsys.FS) api.Errno { f.Mkdir("/blobs", 7); return f.Write("/roots", 420) },
	} {
		f := made(t, 60, 16)
		wantError(t, what, plant(f), api.OK)
		wantError(t, what, f.Write("/waits", 420, 'x'), api.OK)
		was, _ := f.Walk("/")
		p, i := f.Free()
		if s, e := Open(f); s != nil || e != api.ErrBroken {
			t.Errorf("%s: error %d", what, e)
		}
		now, _ := f.Walk("/")
		if q, j := f.Free(); !slices.Equal(was, now) || p != q || i != j {
			t.Errorf("%s: something has changed", what)
		}
		wantError(t, "Check", second(fsck.Check(f.Inodes())), api.OK)
	}
}

// P15.1 (Open): with each room, from none to just enough; no room goes ahead of what is broken.
func TestOpenWithoutRoom(t *testing.T) {
	for _, broken := range []bool{false, true} {
		f := made(t, 240, 16)
		if broken {
			wantError(t, "Write", f.Write("/refs", 420, 'x'), api.OK)
			wantError(t, "Commit", f.Commit(), api.OK)
		}
		whole := &Store{shelf{second2(blob.New(f)), noReferences()}}
		wantError(t, "Abort", f.Abort(), api.OK)
		last, needs := pages(f), 0
		for e := api.ErrFull; e == api.ErrFull; needs++ {
			crowd(t, whole, needs)
			_, e = Open(f)
			if e == api.ErrFull {
				wantForgotten(t, "Open", f, last)
			} else if broken != (e == api.ErrBroken) || cacheOf(whole).Room() != 0 {
				t.Errorf("Open with just enough room: error %d, a room of %d", e, cacheOf(whole).Room())
			}
		}
		if needs < 4 {
			t.Errorf("a room of %d is enough", needs)
		}
	}
	for _, x := range []struct{ pages, inodes int }{{0, 2}, {1, 0}, {1, 1}, {1, 2}} {
		f := made(t, 60, 16)
		hoard(t, f, x.pages, x.inodes)
		want := api.ErrFull
		if x.pages == 1 && x.inodes == 2 {
			want = api.OK
		}
		last := pages(f)
		s, e := Open(f)
		wantError(t, "Open with few pages and inodes", e, want)
		if want != api.OK {
			wantForgotten(t, "Open", f, last)
			if s != nil {
				t.Error("a store beside an error")
			}
		}
	}
}

// P15.1 (ErrFull): what Open found missing may be there again, once all since the last Commit is forgotten.
func TestOpenWithoutRoomOverWhatWasRemoved(t *testing.T) {
	f := made(t, 60, 16)
	wantError(t, "Mkdir", f.Mkdir("/blobs", 493), api.OK)
	hoard(t, f, 10, 0)
	last := pages(f)
	wantError(t, "Rmdir", f.Rmdir("/blobs"), api.OK)
	if s, e := Open(f); s != nil || e != api.ErrFull {
		t.Errorf("error %d", e)
	}
	wantForgotten(t, "Open", f, last)
}

func second2[T any](x T, _ api.Errno) T {
	return x
}

// crowdedRoot is a committed file system in whose root there is room for two names more.
func crowdedRoot(t *testing.T) *fsys.FS {
	t.Helper()
	f := made(t, 300, 32)
	wantError(t, "Write", f.Write("/f", 420), api.OK)
	for n := range api.MaxFile/api.EntryBytes - 3 {
		wantError(t, "Link", f.Link("/f", "/"+strconv.Itoa(n)), api.OK)
		if n%64 == 0 {
			wantError(t, "Commit", f.Commit(), api.OK)
		}
	}
	wantError(t, "Commit", f.Commit(), api.OK)
	return f
}

// P1, P2: a root with no room for names. Open has the file system's own error, and changes nothing; a Put finds no room for the references.
func TestRootFullOfNames(t *testing.T) {
	f := crowdedRoot(t)
	for _, more := range []string{"/one", "/another"} {
		full := mounted(t, f.Disk())
		wantError(t, "Link", full.Link("/f", more), api.OK)
		if more == "/another" {
			wantError(t, "Link", full.Link("/f", "/one"), api.OK)
		}
		names, _ := full.List("/")
		if s, e := Open(full); s != nil || e != api.ErrLong {
			t.Errorf("Open: error %d", e)
		}
		if now, _ := full.List("/"); !slices.Equal(names, now) {
			t.Error("Open: something has changed")
		}
	}
	s := opened(t, f)
	commit(t, s)
	last := pages(f)
	wantError(t, "Put", second(s.Put('x')), api.ErrFull)
	wantForgotten(t, "Put", f, last)
	wantError(t, "Audit", s.Audit(), api.OK)
}

// P15.3 (Audit): a blob that nobody refers to; one that is referred to, in each way, and is not there
func TestAudit(t *testing.T) {
	s, m := planted(t)
	wantModel(t, "planted", s, m)
	for _, b := range [][]byte{oneLayer(t), twoLayer(t), oneImage(t), bothImage(t), plainText()} {
		wantError(t, "Delete", s.Blobs().Delete(digest(b)), api.OK)
		wantRefused(t, "a blob is missing", s, api.ErrBroken, s.Audit)
		wantError(t, "Abort", s.Abort(), api.OK)
		wantError(t, "Audit", s.Audit(), api.OK)
	}
	for _, b := range [][]byte{{}, imageOf("other"), []byte("x")} {
		s.Blobs().Put(b...)
		wantRefused(t, "a blob that nobody refers to", s, api.ErrBroken, s.Audit)
		s.Blobs().Delete(digest(plainText()))
		wantRefused(t, "one more and one less", s, api.ErrBroken, s.Audit)
		wantError(t, "Abort", s.Abort(), api.OK)
	}
	s.Blobs().Put('x')
	wantError(t, "Put", second(s.Put('x')), api.OK)
	wantError(t, "Audit of what is held now", s.Audit(), api.OK)
	for _, b := range [][]byte{oneLayer(t), oneImage(t)} { // referred to by words alone
		s, _ := planted(t)
		wantError(t, "Release", s.Release(digest(b)), api.OK)
		wantError(t, "Audit", s.Audit(), api.OK)
		wantError(t, "Delete", s.Blobs().Delete(digest(b)), api.OK)
		wantError(t, "Audit of what is missing", s.Audit(), api.ErrBroken)
	}
	b := made(t, 60, 16)
	second2(blob.New(b)).Put('x')
	wantError(t, "Audit of blobs without references", opened(t, b).Audit(), api.ErrBroken)
}

// P15.1 (Open), P15.3: a store that is closed and opened again tells the same, as it was committed.
func TestOpenAgain(t *testing.T) {
	s, m := planted(t)
	for range 3 {
		again := opened(t, mounted(t, files(s).Disk()))
		wantModel(t, "opened again", again, m)
		wantModel(t, "a second store of one file system", opened(t, files(again)), m)
		if len(cacheOf(again).Dirty()) != 0 {
			t.Error("opening has changed something")
		}
		s = again
	}
	b := maps.Clone(m.blobs)
	m.put(plainText())
	put(t, s, plainText())
	again := opened(t, mounted(t, files(s).Disk()))
	m.abort()
	wantModel(t, "what was not committed", again, m)
	if len(b) != 6 {
		t.Errorf("%d blobs", len(b))
	}
}
