package gc

import (
	"strconv"
	"testing"

	"dunnage/api"
)

func wantTag(t *testing.T, s *Store, m *model, word string, b []byte) {
	t.Helper()
	wantError(t, "the model's tag", m.tag(word, digest(b)), api.OK)
	wantError(t, "Tag", s.Tag(word, digest(b)), api.OK)
	wantModel(t, "Tag "+word, s, m)
}

func wantUntag(t *testing.T, s *Store, m *model, word string) {
	t.Helper()
	wantError(t, "the model's untag", m.untag(word), api.OK)
	wantError(t, "Untag", s.Untag(word), api.OK)
	wantModel(t, "Untag "+word, s, m)
}

func wantRelease(t *testing.T, s *Store, m *model, all ...[]byte) {
	t.Helper()
	for _, b := range all {
		wantError(t, "the model's release", m.release(digest(b)), api.OK)
		wantError(t, "Release", s.Release(digest(b)), api.OK)
		wantModel(t, "Release", s, m)
	}
}

// P15.2 (Tag, ErrName; Untag): words of one byte, of MaxWord and one more, of each byte; words that are none
func TestTagWords(t *testing.T) {
	s, m := planted(t)
	for _, word := range []string{"a", "z", "0", "9", "-", "--", "a-0", longWord(api.MaxWord), "0123456789-abcdefghijk", "lmnopqrstuvwxyz"} {
		wantTag(t, s, m, word, oneImage(t))
		wantUntag(t, s, m, word)
	}
	none := []string{"", longWord(api.MaxWord + 1), longWord(300), "A", "a b", " a", "a ", "a/b", "/", ".", "..", "a.b", "_", "\x00", "\n", "é", "a=b", ":"}
	for c := range 256 {
		if word := string([]byte{byte(c)}); (c < 'a' || c > 'z') && (c < '0' || c > '9') && c != '-' {
			none = append(none, word, "x"+word, word+"x")
		}
	}
	for _, word := range none {
		wantStill(t, strconv.Quote(word), files(s), func() {
			wantError(t, "Tag "+strconv.Quote(word), s.Tag(word, digest(oneImage(t))), api.ErrName)
			wantError(t, "Pin "+strconv.Quote(word), s.Pin(word, "x"), api.ErrName)
			wantError(t, "Untag "+strconv.Quote(word), s.Untag(word), api.ErrNone)
			wantError(t, "Unpin "+strconv.Quote(word), s.Unpin(word), api.ErrNone)
			wantError(t, "Pin of "+strconv.Quote(word), s.Pin("q", word), api.ErrNone)
		})
	}
}

// P15.2 (Tag): what is not there, no manifest, or names what is not there
func TestTagOfWhat(t *testing.T) {
	s, _ := planted(t)
	refused := func(what string, want api.Errno, h api.Hash) {
		t.Helper()
		wantRefused(t, what, s, want, func() api.Errno { return s.Tag("t", h) })
		wantRefused(t, what+", a known word", s, want, func() api.Errno { return s.Tag("x", h) })
	}
	refused("not there", api.ErrNone, api.Hash{})
	refused("not there", api.ErrNone, digest(imageOf("nobody")))
	for _, b := range [][]byte{nil, oneImage(t)[:10], append(oneImage(t), 0), []byte("DM\x01"), imageOf("No"), tarOf(t), tarOf(t, file("a", "b"))} {
		put(t, s, b)
		refused("no manifest", api.ErrForm, digest(b))
	}
	refused("a layer", api.ErrForm, digest(oneLayer(t)))
	for _, b := range [][]byte{
		imageOf("lost", []byte("not there")), imageOf("lost", oneLayer(t), []byte("not there")), imageOf("lost", []byte("not there"), oneLayer(t)),
	} {
		put(t, s, b)
		refused("a layer that is not there", api.ErrNone, digest(b))
	}
	put(t, s, []byte("not there"))
	wantError(t, "Tag, now that it is there", s.Tag("t", digest(imageOf("lost", []byte("not there")))), api.OK)
	layer := digest([]byte("not there"))
	wantError(t, "Release", s.Release(layer), api.OK)
	if s.Count(layer) != 1 || !s.Blobs().Has(layer) {
		t.Errorf("a layer of a tag: %d references", s.Count(layer))
	}
}

// P15.2 (Tag): a manifest of no layers, of MaxLayers layers, and one that names manifests: what these name it does not refer to.
func TestTagOfLayers(t *testing.T) {
	s, m := planted(t)
	all := make([][]byte, api.MaxLayers)
	for k := range all {
		all[k] = plainText()
	}
	for k, b := range [][]byte{imageOf("none"), imageOf("most", all...), imageOf("images", oneImage(t), bothImage(t))} {
		put(t, s, b)
		m.put(b)
		wantTag(t, s, m, "t"+strconv.Itoa(k), b)
	}
	for _, word := range []string{"x", "y", "z"} {
		wantUntag(t, s, m, word)
	}
	wantError(t, "Unpin", s.Unpin("p"), m.unpin("p"))
	wantRelease(t, s, m, oneLayer(t), twoLayer(t), oneImage(t), bothImage(t), plainText())
	if n := s.Count(digest(plainText())); n != api.MaxLayers {
		t.Errorf("a layer that is named %d times: %d references", api.MaxLayers, n)
	}
	if s.Blobs().Has(digest(oneLayer(t))) || !s.Blobs().Has(digest(oneImage(t))) {
		t.Error("what a manifest names that is itself only named")
	}
	for k := range 3 {
		wantUntag(t, s, m, "t"+strconv.Itoa(k))
	}
}

// Words of chapter 15: a manifest that names a layer several times; one that two tags and a pin stand for
func TestCounts(t *testing.T) {
	s, m := planted(t)
	count := func(what string, b []byte, want int) {
		t.Helper()
		if n := s.Count(digest(b)); n != want {
			t.Errorf("%s: %d references, want %d", what, n, want)
		}
	}
	count("two tags, a pin and a hold", oneImage(t), 4)
	count("a tag and a hold", bothImage(t), 2)
	count("named by two manifests, held", oneLayer(t), 3)
	count("named by one, held", twoLayer(t), 2)
	count("held", thriceImage(t), 1)
	wantTag(t, s, m, "t", thriceImage(t))
	count("named by three", oneLayer(t), 4)
	count("named by two, by one of them thrice", twoLayer(t), 5)
	wantTag(t, s, m, "u", thriceImage(t))
	wantError(t, "Pin", s.Pin("q", "u"), m.pin("q", "u"))
	count("two tags and a pin", thriceImage(t), 4)
	count("each manifest once", twoLayer(t), 5)
	wantUntag(t, s, m, "t")
	wantUntag(t, s, m, "u")
	count("a pin", thriceImage(t), 2)
	count("a pin's manifest", twoLayer(t), 5)
	wantError(t, "Unpin", s.Unpin("q"), m.unpin("q"))
	count("held", thriceImage(t), 1)
	count("named by one, held", twoLayer(t), 2)
	wantModel(t, "back again", s, m)
}

// P15.2 (Tag): moved to the same manifest, to another one; what nothing refers to any more goes.
func TestTagMoved(t *testing.T) {
	s, m := planted(t)
	wantTag(t, s, m, "z", bothImage(t))
	wantRelease(t, s, m, oneLayer(t), twoLayer(t), oneImage(t), bothImage(t))
	wantTag(t, s, m, "z", bothImage(t))
	wantTag(t, s, m, "z", oneImage(t))
	if s.Blobs().Has(digest(bothImage(t))) || s.Blobs().Has(digest(twoLayer(t))) || !s.Blobs().Has(digest(oneLayer(t))) {
		t.Error("what the tag stood for, and what that alone named")
	}
	put(t, s, imageOf("none"))
	m.put(imageOf("none"))
	for _, word := range []string{"x", "y", "z"} {
		wantTag(t, s, m, word, imageOf("none"))
	}
	if !s.Blobs().Has(digest(oneLayer(t))) {
		t.Error("what a pin refers to is gone")
	}
	wantError(t, "Unpin", s.Unpin("p"), m.unpin("p"))
	wantModel(t, "Unpin", s, m)
	if s.Blobs().Has(digest(oneLayer(t))) || s.Blobs().Has(digest(oneImage(t))) {
		t.Error("what nothing refers to")
	}
}

// P15.2 (ErrLong): MaxTags tags, and one more; one of them moved
func TestMaxTags(t *testing.T) {
	s, m := planted(t)
	for n := len(m.tags); n < api.MaxTags; n++ {
		wantTag(t, s, m, "t"+strconv.Itoa(n), oneImage(t))
	}
	wantRefused(t, "one more", s, api.ErrLong, func() api.Errno { return s.Tag("more", digest(oneImage(t))) })
	wantTag(t, s, m, "t7", bothImage(t))
	wantTag(t, s, m, "t7", bothImage(t))
	commit(t, s)
	s = opened(t, mounted(t, files(s).Disk()))
	wantModel(t, "opened again", s, m)
	wantRefused(t, "one more", s, api.ErrLong, func() api.Errno { return s.Tag("more", digest(oneImage(t))) })
	wantUntag(t, s, m, "t7")
	wantTag(t, s, m, "more", bothImage(t))
	wantRefused(t, "one more", s, api.ErrLong, func() api.Errno { return s.Tag("t7", digest(oneImage(t))) })
}

// P2: the order of Tag's errors
func TestTagOrder(t *testing.T) {
	s, m := planted(t)
	lost := imageOf("lost", []byte("not there"))
	put(t, s, lost)
	m.put(lost)
	for n := len(m.tags); n < api.MaxTags; n++ {
		wantTag(t, s, m, "t"+strconv.Itoa(n), oneImage(t))
	}
	for _, x := range []struct {
		what, word string
		h          api.Hash
		want       api.Errno
	}{
		{"the word ahead of the blob", "No", api.Hash{}, api.ErrName},
		{"the word ahead of the manifest", "No", digest(plainText()), api.ErrName},
		{"the word ahead of too many", "No", digest(oneImage(t)), api.ErrName},
		{"the blob ahead of too many", "more", api.Hash{}, api.ErrNone},
		{"the manifest ahead of too many", "more", digest(plainText()), api.ErrForm},
		{"the layers ahead of too many", "more", digest(lost), api.ErrNone},
		{"too many", "more", digest(oneImage(t)), api.ErrLong},
	} {
		wantRefused(t, x.what, s, x.want, func() api.Errno { return s.Tag(x.word, x.h) })
	}
}
