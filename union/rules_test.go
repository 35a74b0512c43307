package union

import (
	"bytes"
	"slices"
	"testing"

	"dunnage/api"
	"dunnage/disk"
	"dunnage/fsys"
)

// P1: nil lists, zero values, numbers and texts of any kind
func TestAllArguments(t *testing.T) {
	if !Right(nil) || !Right([]api.Node{}) || Right([]api.Node{{}}) {
		t.Error("Right of no nodes, or of the zero node")
	}
	wantTree(t, "nil", nil, nil)
	wantTree(t, "empty", []api.Node{}, []api.Change{})
	wantFolded(t, "nil", nil)
	wantFolded(t, "nil layers", [][]api.Change{nil, nil})
	wantRefused(t, "the zero change", nil, []api.Change{{}}, api.ErrForm)
	wantRefused(t, "the zero node", []api.Node{{}}, nil, api.ErrForm)
	f := made(t, 60, 16)
	next := row(8)
	text := func() string {
		b := make([]byte, next(5))
		for i := range b {
			b[i] = "/a.\x00\xff"[next(5)]
		}
		return string(b)
	}
	for range 20000 {
		n := api.Node{Path: text(), Kind: api.Kind(next(7) - 1), Mode: next(5000) - 500, Link: text(), Data: []byte(text())}
		c := api.Change{Kind: api.ChangeKind(next(6) - 1), Path: text(), Node: api.Entry{Name: text(), Kind: n.Kind, Mode: n.Mode, Link: n.Link, Data: n.Data}}
		wantStill(t, "a tree that is none", f, func() {
			if tree := []api.Node{n}; !rightByTheWords(tree) {
				wantRefused(t, "no tree", tree, changes(c), api.ErrForm)
				wantError(t, "no tree", Lay(f, text(), tree), api.ErrForm)
			}
			Fold(changes(c), changes(c))
			Tree(f, text())
			Export(f, text())
		})
	}
}

// inRoom is a tree whose Data lie in one list, and that list.
func inRoom() ([]api.Node, []byte) {
	room := []byte(many(1000))
	tree := planted()
	tree[1].Data, tree[3].Data, tree[6].Data = room[:300], room[200:500], room[500:500]
	return slices.Concat(tree, numbered("/d", 2))[:len(tree)], room
}

// P3: what is handed in stays as it is, spare room too, and nothing that is answered lies in it.
func TestHandedInStays(t *testing.T) {
	tree, room := inRoom()
	was, _ := inRoom()
	l := changes(putFile("/x", "new"), putHard("/y", "/a/f"), gone("/b"), putDir("/a", 7), opaque("/c"), putLink("/z", "l"), putFile("/gone", ""))
	l[0].Node.Data = room[600:800]
	list := slices.Clone(l)
	f := ground(t, 240, 64)
	got, e := Apply(tree, l[:6])
	wantError(t, "Apply", e, api.OK)
	folded, e := Fold(l[:1], l[2:6])
	wantError(t, "Fold", e, api.OK)
	Apply(tree[:3], l)
	Right(tree)
	wantError(t, "Lay", Lay(f, "/r", tree), api.OK)
	if !same(tree[:cap(tree)], was[:cap(was)]) || !slices.EqualFunc(l, list, isSame) || string(room) != many(1000) {
		t.Error("what was handed in has changed")
	}
	clear(room)
	clear(tree)
	clear(l)
	want := slices.Concat(was[:6], was[7:], []api.Node{file("/x", 420, many(200)), file("/y", 420, many(300)), link("/z", "l")})
	want[0].Mode = 7
	if !same(got, want) || !same(folded, []api.Node{directory("/a", 7), file("/x", 420, many(200)), link("/z", "l")}) {
		t.Error("an answer that lies in what was handed in")
	}
	wantLaid(t, "cleared behind it", f, "/r", was)
}

// wantApart: no list of an answer lies in another one.
func wantApart(t *testing.T, what string, lists ...[]byte) {
	t.Helper()
	for i, b := range lists {
		was := bytes.Clone(slices.Concat(lists[i+1:]...))
		clear(b[:cap(b)])
		if !bytes.Equal(was, slices.Concat(lists[i+1:]...)) {
			t.Errorf("%s: two lists of one answer lie in each other", what)
		}
	}
}

func dataOf(tree []api.Node) [][]byte {
	var all [][]byte
	for _, n := range tree {
		all = append(all, n.Data)
	}
	return all
}

// P3, P6: what is answered is the caller's, its lists apart; and no call knows of another one.
func TestAnsweredIsTheCallers(t *testing.T) {
	l := changes(putFile("/f", many(100)), putHard("/g", "/f"), putHard("/h", "/g"))
	want := []api.Node{file("/f", 420, many(100)), file("/g", 420, many(100)), file("/h", 420, many(100))}
	f := ground(t, 240, 64)
	for range 2 {
		tree, e := Fold(l)
		if e != api.OK || !same(tree, want) {
			t.Fatalf("Fold: %s, error %d", brief(tree), e)
		}
		wantApart(t, "Fold", dataOf(tree)...)
		tree, e = Apply(want, nil)
		wantError(t, "Apply", e, api.OK)
		wantApart(t, "Apply", dataOf(tree)...)
		clear(tree[:cap(tree)])
		if string(want[0].Data) != many(100) || string(l[0].Node.Data) != many(100) {
			t.Fatal("an answer that lies in what was handed in")
		}
	}
	wantError(t, "Lay", Lay(f, "/r", want), api.OK)
	wantError(t, "Link", f.Link("/r/f", "/r/i"), api.OK)
	want = append(want, file("/i", 420, many(100)))
	for range 2 {
		tree, _ := Tree(f, "/r")
		wantApart(t, "Tree", dataOf(tree)...)
		entries, _ := Export(f, "/r")
		for _, x := range entries {
			clear(x.Data[:cap(x.Data)])
		}
		wantLaid(t, "behind a change of what was answered", f, "/r", want)
	}
}

// P6: two file systems do not know of each other, and a tree hangs on nothing but what is asked for.
func TestNothingElseIsKept(t *testing.T) {
	f, other := ground(t, 240, 64), ground(t, 240, 64)
	wantError(t, "Lay", Lay(f, "/r", planted()), api.OK)
	if _, e := other.Stat("/r"); e != api.ErrNone {
		t.Errorf("laid out elsewhere: error %d", e)
	}
	wantError(t, "Lay", Lay(other, "/r", numbered("", 3)), api.OK)
	wantLaid(t, "the one", f, "/r", planted())
	wantLaid(t, "the other one", other, "/r", numbered("", 3))
	for range 30 {
		wantApplied(t, "again", changes(gone("/a/f"), opaque("/a/g")), without("/a/f", "/a/g/h", "/a/g/l")...)
	}
}

// E3, P14.3: a tree is told behind a Commit, and of the file system that is mounted then.
func TestMounted(t *testing.T) {
	f := ground(t, 240, 64)
	wantError(t, "Lay", Lay(f, "/d/r", planted()), api.OK)
	commit(t, f)
	wantLaid(t, "committed", f, "/d/r", planted())
	wantLaid(t, "mounted", mounted(t, f.Disk()), "/d/r", planted())
}

func mounted(t *testing.T, d *disk.Disk) *fsys.FS {
	t.Helper()
	f, e := fsys.Mount(d, api.MaxGroup)
	if f == nil || e != api.OK {
		t.Fatalf("Mount: error %d", e)
	}
	return f
}
