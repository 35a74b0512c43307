package layer

import (
	"bytes"
	"slices"
	"testing"

	"dunnage/api"
	"dunnage/tarfmt"
)

// P1: no arguments, zero values, bytes of any kind
func TestAllArguments(t *testing.T) {
	if l, e, at := Changes(nil...); len(l) != 0 || e != api.OK || at != 0 {
		t.Errorf("Changes of nil: %s, error %d, %d", brief(l...), e, at)
	}
	wantNone(t, "the zero entry", api.Entry{})
	next := row(3)
	for n := range 2000 {
		b := make([]byte, n)
		for i := range b {
			b[i] = byte(next(256))
		}
		Clean(string(b))
		Changes(file(string(b), ""), hard("h", string(b)))
		wantNoLayer(t, "bytes by a rule", b)
	}
}

// P3: what is handed in stays as it is, spare room too, and is not kept.
func TestHandedInStays(t *testing.T) {
	room := []byte(many(3000))
	was := bytes.Clone(room)
	entries, changes := right()
	entries = append(entries, api.Entry{Name: "a/./b", Kind: api.File, Data: room[:700]}, api.Entry{Name: "c//", Kind: api.File, Data: room[300:1500]}, hard("x//", "y//"))
	changes = append(changes, putAt("/a/b", api.Entry{Kind: api.File, Data: was[:700]}), putAt("/c", api.Entry{Kind: api.File, Data: was[300:1500]}))
	list := slices.Clone(entries)
	got, e, _ := Changes(entries[: len(entries)-1 : len(entries)]...)
	wantError(t, "Changes", e, api.OK)
	Changes(entries...)
	for i, e := range entries {
		if e.Name != list[i].Name || e.Link != list[i].Link || !bytes.Equal(e.Data, list[i].Data) {
			t.Errorf("%q has changed", list[i].Name)
		}
	}
	if !bytes.Equal(room, was) {
		t.Error("what was handed in has changed")
	}
	clear(room)
	clear(entries)
	if !same(got, changes) {
		t.Error("changes that lie in what was handed in")
	}
}

// P3: the bytes of a tar stay, and nothing that is read lies in them.
func TestReadStays(t *testing.T) {
	entries, changes := right()
	b := tarOf(t, entries...)
	wide := append(bytes.Clone(b), many(1000)...)
	was := bytes.Clone(wide)
	l, e := Read(wide[:len(b)])
	wantError(t, "Read", e, api.OK)
	Read(wide)
	if !bytes.Equal(wide, was) {
		t.Error("what was handed in has changed")
	}
	clear(wide)
	if !same(l, changes) {
		t.Error("changes that lie in what was handed in")
	}
}

// P3, P6: what is answered is the caller's, its lists apart; and no call knows of another one.
func TestAnsweredIsTheCallers(t *testing.T) {
	data := []byte(many(100))
	twice := []api.Entry{{Name: "a", Kind: api.File, Data: data}, {Name: "b", Kind: api.File, Data: data}, {Name: "c", Kind: api.File, Data: data[:50]}}
	b, _ := tarfmt.Print(twice...)
	for range 2 {
		for _, read := range []func() ([]api.Change, api.Errno){
			func() ([]api.Change, api.Errno) { return Read(b) },
			func() ([]api.Change, api.Errno) { l, e, _ := Changes(twice...); return l, e },
		} {
			l, e := read()
			wantError(t, "the changes", e, api.OK)
			for i := range l {
				clear(l[i].Node.Data[:cap(l[i].Node.Data)])
				for k, c := range l[i+1:] {
					if !bytes.Equal(c.Node.Data, twice[i+1+k].Data) {
						t.Fatal("two lists of one answer lie in each other")
					}
				}
			}
			clear(l[:cap(l)])
		}
		if string(data) != many(100) {
			t.Fatal("an answer that lies in what was handed in")
		}
	}
}
