package tarfmt

import (
	"bytes"
	"slices"
	"testing"

	"dunnage/api"
)

// P1: nil lists, the zero entry, bytes of any kind
func TestAllArguments(t *testing.T) {
	wantRight(t, "the zero entry", api.Entry{}, api.ErrRange)
	wantPrinted(t, nil...)
	wantPrinted(t, []api.Entry{}...)
	next := row(5)
	for n := range 3000 {
		b := make([]byte, n)
		for i := range b {
			b[i] = byte(next(256))
		}
		wantAsTheWords(t, b)
	}
}

// P3: what is handed in stays as it is, spare room too, and is not kept.
func TestHandedInStays(t *testing.T) {
	room := data(2000)
	entries := append(rights(), file("in a room", 420, room[:700]), file("in it too", 420, room[200:1300]))
	list, was := slices.Clone(entries), bytes.Clone(room)
	b, e := Print(entries[:len(entries):len(entries)]...)
	wantError(t, "Print", e, api.OK)
	Print(entries[:3]...)
	for _, e := range entries {
		Right(e)
	}
	if !same(entries, list) || !same(entries[:len(rights())], rights()) || !bytes.Equal(room, was) {
		t.Error("what was handed in has changed")
	}
	whole := bytes.Clone(b)
	clear(room)
	if !bytes.Equal(b, whole) {
		t.Error("a tar that lies in what was handed in")
	}
	wide := append(bytes.Clone(b), data(3000)...)
	handed := bytes.Clone(wide)
	l, e, _ := Parse(wide[:len(b)])
	wantError(t, "Parse", e, api.OK)
	Parse(wide[:len(b)-1])
	Parse(wide)
	Sum(wide[:512])
	Sum(wide[:511])
	if !bytes.Equal(wide, handed) {
		t.Error("what was handed in has changed")
	}
	clear(wide)
	copy(room, was)
	if !same(l, list) {
		t.Error("entries that lie in what was handed in")
	}
}

// P3, P6: what is answered is the caller's, its lists apart; and no call knows of another one.
func TestAnsweredIsTheCallers(t *testing.T) {
	want := tarOf(rights()...)
	for range 2 {
		b, _ := Print(rights()...)
		if !bytes.Equal(b, want) {
			t.Fatal("printed in another way")
		}
		clear(b[:cap(b)])
		l, _, _ := Parse(want)
		for i := range l {
			clear(l[i].Data[:cap(l[i].Data)])
			if !same(l[i+1:], rights()[i+1:]) {
				t.Fatal("two lists of one answer lie in each other")
			}
		}
		wantParsed(t, want, rights()...)
	}
}
