package gc

import (
	"bytes"
	"fmt"
	"strconv"
	"strings"
	"testing"

	"dunnage/api"
	"dunnage/layer"
	"dunnage/union"
)

func wantPin(t *testing.T, s *Store, m *model, word, tag string) {
	t.Helper()
	wantError(t, "the model's pin", m.pin(word, tag), api.OK)
	wantError(t, "Pin", s.Pin(word, tag), api.OK)
	wantModel(t, "Pin "+word, s, m)
}

func wantUnpin(t *testing.T, s *Store, m *model, word string) {
	t.Helper()
	wantError(t, "the model's unpin", m.unpin(word), api.OK)
	wantError(t, "Unpin", s.Unpin(word), api.OK)
	wantModel(t, "Unpin "+word, s, m)
}

// tagged puts blobs, the last one of them a manifest, and tags that.
func tagged(t *testing.T, s *Store, m *model, word string, blobs ...[]byte) {
	t.Helper()
	for _, b := range blobs {
		put(t, s, b)
		m.put(b)
	}
	wantTag(t, s, m, word, blobs[len(blobs)-1])
	commit(t, s)
	m.commit()
}

// P15.2 (Pin, Unpin), P15.6 (E6): what is laid out is the fold of the layers; its bytes and modes are those of the tars.
func TestPin(t *testing.T) {
	s, m := planted(t)
	for tag, word := range map[string]string{"x": "a", "y": longWord(api.MaxWord), "z": "-"} {
		wantPin(t, s, m, word, tag)
	}
	read := func(path string) string {
		b, _ := files(s).Read(path)
		return string(b)
	}
	if read("/roots/p/a") != "one" || read("/roots/-/a") != "two" || read("/roots/p/d/f") != strings.Repeat("x", 700) {
		t.Error("files of the pins")
	}
	if _, e := files(s).Stat("/roots/-/d/f"); e != api.ErrNone {
		t.Errorf("what the second layer takes away: error %d", e)
	}
	if target, e := files(s).Target("/roots/-/l"); target != "a" || e != api.OK {
		t.Errorf("a link: %q, error %d", target, e)
	}
	one, _ := layer.Read(oneLayer(t))
	two, _ := layer.Read(twoLayer(t))
	want, _ := union.Fold(one, two)
	if tree, e := union.Tree(files(s), "/roots/-"); fmt.Sprint(tree) != fmt.Sprint(want) || e != api.OK {
		t.Errorf("%v, error %d", tree, e)
	}
	for _, word := range []string{"a", "-", "p"} {
		wantUnpin(t, s, m, word)
		if _, e := files(s).Stat("/roots/" + word); e != api.ErrNone {
			t.Errorf("a directory that is no pin's: error %d", e)
		}
	}
	wantRefused(t, "Unpin again", s, api.ErrNone, func() api.Errno { return s.Unpin("p") })
	wantRefused(t, "Unpin of a tag", s, api.ErrNone, func() api.Errno { return s.Unpin("x") })
	wantRefused(t, "Pin of a pin", s, api.ErrNone, func() api.Errno { return s.Pin("q", "a") })
	wantPin(t, s, m, "p", "z")
}

// P15.2: a pin keeps what it was laid out from, wherever its tag goes.
func TestPinStays(t *testing.T) {
	s, m := planted(t)
	wantRelease(t, s, m, oneLayer(t), twoLayer(t), oneImage(t), bothImage(t))
	wantPin(t, s, m, "q", "z")
	wantTag(t, s, m, "z", oneImage(t))
	wantUntag(t, s, m, "x")
	wantUntag(t, s, m, "y")
	wantUntag(t, s, m, "z")
	if h, e := s.Pinned("q"); h != digest(bothImage(t)) || e != api.OK {
		t.Errorf("Pinned: %x, error %d", h, e)
	}
	wantTag(t, s, m, "again", bothImage(t))
	wantUnpin(t, s, m, "q")
	wantUnpin(t, s, m, "p")
	wantUntag(t, s, m, "again")
	wantRelease(t, s, m, plainText(), thriceImage(t))
	if list, _ := s.Blobs().List(); len(list) != 0 {
		t.Errorf("%x", list)
	}
}

// P15.2 (Pin): a manifest of no layers; layers that take away, put over, name each other
func TestPinOfLayers(t *testing.T) {
	s, m := stored(t, 600, 128), newModel()
	hard := api.Entry{Name: "h", Kind: api.Hard, Link: "./a"}
	layers := [][]byte{
		tarOf(t), tarOf(t, file("a", "1"), hard), tarOf(t, hard), tarOf(t, file(".wh.a", ""), directory("a/")), tarOf(t, file(".wh..wh..opq", ""), file("d/e/f", "deep")),
	}
	tagged(t, s, m, "none", imageOf("none"))
	wantPin(t, s, m, "none", "none")
	for n := range layers {
		images := [][]byte{layers[n], imageOf("upto", layers[:n+1]...)}
		tagged(t, s, m, "upto"+strconv.Itoa(n), images...)
		wantPin(t, s, m, "p"+strconv.Itoa(n), "upto"+strconv.Itoa(n))
	}
	if tree, _ := union.Tree(files(s), "/roots/none"); len(tree) != 0 {
		t.Errorf("of no layers: %v", tree)
	}
}

// P15.2 (ErrLayer): layers that are no tar, that have no change, or that can't be folded
func TestPinOfWhatIsNoLayer(t *testing.T) {
	s, m := stored(t, 600, 128), newModel()
	fine := tarOf(t, file("a", "x"))
	deep := strings.Repeat("d/", 15)
	var many []api.Entry
	for n := range 20 {
		many = append(many, file(strings.Repeat(strconv.Itoa(n)+"/", 14)+"f", ""))
	}
	for what, l := range map[string][]byte{
		"no bytes": {}, "a text": plainText(), "a tar that is cut": fine[:512], "a tar that goes on": append(bytes.Clone(fine), 1), "a manifest": imageOf("x"),
		"a name that leads out": tarOf(t, file("../a", "")), "a wrong whiteout": tarOf(t, file(".wh.", "")), "too deep a name": tarOf(t, file(deep+"/x/y", "")),
		"below a file": tarOf(t, file("a", ""), file("a/b", "")), "a hard link to nothing": tarOf(t, api.Entry{Name: "h", Kind: api.Hard, Link: "x"}),
		"too many nodes": tarOf(t, many...),
	} {
		for _, image := range [][]byte{imageOf("k", l), imageOf("k", fine, l), imageOf("k", l, fine)} {
			if what == "below a file" && len(image) > 50 { // what it finds there may be a directory by then
				continue
			}
			put(t, s, fine)
			m.put(fine)
			tagged(t, s, m, "t", l, image)
			wantRefused(t, what, s, api.ErrLayer, func() api.Errno { return s.Pin("p", "t") })
			wantModel(t, what, s, m)
		}
	}
}

// P15.2 (Pin): union.Lay's errors: a tree that is too deep below /roots and the word, or too long; a directory that is there
func TestPinThatCannotBeLaidOut(t *testing.T) {
	s, m := planted(t)
	deepest := strings.Repeat("d/", api.MaxDepth-2)
	long := strings.Repeat(strings.Repeat("n", 50)+"/", 3) + strings.Repeat("n", 46) + "/" // 200 bytes, behind /roots/q/ 209
	for what, x := range map[string]struct {
		name string
		want api.Errno
	}{
		"as deep as can be": {deepest, api.OK},
		"too deep":          {deepest + "d", api.ErrName},
		"as long as can be": {long + strings.Repeat("m", 46), api.OK},
		"too long":          {long + strings.Repeat("m", 47), api.ErrName},
	} {
		l := tarOf(t, file(strings.TrimSuffix(x.name, "/"), ""))
		tagged(t, s, m, "t", l, imageOf("k", l))
		if x.want != api.OK {
			wantRefused(t, what, s, x.want, func() api.Errno { return s.Pin("q", "t") })
			continue
		}
		wantPin(t, s, m, "q", "t")
		wantUnpin(t, s, m, "q")
	}
	wantError(t, "Mkdir", files(s).Mkdir("/roots/known", 493), api.OK)
	wantRefused(t, "a directory that is there", s, api.ErrKnown, func() api.Errno { return s.Pin("known", "x") })
	wantError(t, "Write", files(s).Write("/roots/other", 420), api.OK)
	wantRefused(t, "a file that is there", s, api.ErrKnown, func() api.Errno { return s.Pin("other", "x") })
}

// P15.2 (ErrKnown, ErrLong): words that are pins; MaxPins pins, and one more
func TestMaxPins(t *testing.T) {
	s, m := stored(t, 900, 256), newModel()
	l := tarOf(t, file("a", "x"))
	tagged(t, s, m, "t", l, imageOf("k", l))
	tagged(t, s, m, "bad", plainText(), imageOf("bad", plainText()))
	for n := range api.MaxPins {
		wantPin(t, s, m, "p"+strconv.Itoa(n), "t")
		wantRefused(t, "Pin of a pin", s, api.ErrKnown, func() api.Errno { return s.Pin("p"+strconv.Itoa(n), "t") })
	}
	if n := s.Count(digest(l)); n != 2 {
		t.Errorf("a manifest that %d pins stand for names its layer once: %d references", api.MaxPins, n)
	}
	for _, x := range []struct {
		what, word, tag string
		want            api.Errno
	}{
		{"one more", "more", "t", api.ErrLong},
		{"the word ahead of the tag", "No", "nobody", api.ErrName},
		{"the word ahead of too many", "", "t", api.ErrName},
		{"the tag ahead of a known word", "p0", "nobody", api.ErrNone},
		{"the tag ahead of too many", "more", "nobody", api.ErrNone},
		{"a known word ahead of too many", "p0", "t", api.ErrKnown},
		{"a known word ahead of the layers", "p0", "bad", api.ErrKnown},
		{"too many ahead of the layers", "more", "bad", api.ErrLong},
	} {
		wantRefused(t, x.what, s, x.want, func() api.Errno { return s.Pin(x.word, x.tag) })
	}
	commit(t, s)
	m.commit()
	s = opened(t, mounted(t, files(s).Disk()))
	wantRefused(t, "one more, opened again", s, api.ErrLong, func() api.Errno { return s.Pin("more", "t") })
	wantUnpin(t, s, m, "p3")
	wantError(t, "Mkdir", files(s).Mkdir("/roots/known", 493), api.OK)
	wantRefused(t, "the layers ahead of what is there", s, api.ErrLayer, func() api.Errno { return s.Pin("known", "bad") })
	wantError(t, "Rmdir", files(s).Rmdir("/roots/known"), api.OK)
	wantPin(t, s, m, "more", "t")
}

// P15.2 (Unpin): all below the directory goes, also what others have put there; a directory that others have taken away is no harm.
func TestUnpinOfWhatOthersChanged(t *testing.T) {
	s, m := planted(t)
	wantError(t, "Write", files(s).Write("/roots/p/mine", 420, 'x'), api.OK)
	wantUnpin(t, s, m, "p")
	wantPin(t, s, m, "p", "x")
	wantError(t, "Remove", files(s).Remove("/roots/p"), api.OK)
	wantUnpin(t, s, m, "p")
}
