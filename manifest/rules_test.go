package manifest

import (
	"bytes"
	"math"
	"slices"
	"strings"
	"testing"

	"dunnage/api"
)

// row is numbers by a rule, each below a bound; others for each seed.
func row(seed uint32) func(below int) int {
	x := seed*2654435761 + 12345
	return func(below int) int {
		x = x*1664525 + 1013904223
		return int(x>>8) % below
	}
}

// P1: lists that are nil, texts of any bytes, bytes of any kind
func TestAllArguments(t *testing.T) {
	wantRefused(t, api.Manifest{}, api.ErrName)
	wantRefused(t, api.Manifest{Os: strings.Repeat("\xff", math.MaxUint16), Arch: "\x00", Layers: make([]api.Hash, 1<<16)}, api.ErrName)
	next := row(2)
	for n := range 600 {
		b := make([]byte, n)
		for i := range b {
			b[i] = byte(next(256))
		}
		wantDecoded(t, b)
		copy(b, "DM\x01")
		wantDecoded(t, b)
	}
}

// P3: what is handed in stays as it is, spare room too, and is not kept.
func TestHandedInStays(t *testing.T) {
	room := layers(api.MaxLayers + 4)
	was := slices.Clone(room)
	for n := range api.MaxLayers + 2 {
		m := api.Manifest{Os: "linux", Arch: "arm", Layers: room[:n]}
		Right(m)
		Encode(m)
		Digest(m)
		Uses(m, room[0])
		if !slices.Equal(room, was) {
			t.Fatal("what was handed in has changed")
		}
	}
	m := api.Manifest{Os: "linux", Arch: "arm", Layers: layers(3)}
	b := append(bytesOf(m), bytesOf(m)...)
	text := bytes.Clone(b)
	half := b[:len(b)/2]
	got, e := Decode(half)
	wantError(t, "Decode", e, api.OK)
	Decode(half[:len(half)-1])
	Decode(b)
	if !bytes.Equal(b, text) {
		t.Error("what was handed in has changed")
	}
	clear(b)
	if !same(got, m) {
		t.Errorf("%v lies in what was handed in", got)
	}
}

// P3, P6: what is answered is the caller's, and no call knows of another one.
func TestAnsweredIsTheCallers(t *testing.T) {
	for _, m := range rights() {
		want := bytesOf(m)
		for range 2 {
			b, _ := Encode(m)
			if !bytes.Equal(b, want) || !same(m, first(Decode(want))) {
				t.Fatalf("%v is told in another way", m)
			}
			clear(b[:cap(b)])
			got := first(Decode(want))
			clear(got.Layers[:cap(got.Layers)])
			if !bytes.Equal(want, bytesOf(m)) {
				t.Fatal("what is answered lies in what was handed in")
			}
		}
	}
}

func first[T any](x T, _ api.Errno) T {
	return x
}
