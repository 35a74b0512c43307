package manifest

import (
	"bytes"
	"slices"
	"strings"
	"testing"

	"dunnage/api"
)

// found is the right manifest whose bytes these are. It looks for the lengths that fit, and so knows nothing of a reader.
func found(b []byte) (api.Manifest, bool) {
	for os := 1; os <= api.MaxWord; os++ {
		for arch := 1; arch <= api.MaxWord; arch++ {
			n := (len(b) - 6 - os - arch) / 32
			if len(b) < 6+os+arch || n > api.MaxLayers || 6+os+arch+32*n != len(b) {
				continue
			}
			m := api.Manifest{Os: string(b[4 : 4+os]), Arch: string(b[5+os : 5+os+arch])}
			for l := range slices.Chunk(b[6+os+arch:], 32) {
				m.Layers = append(m.Layers, api.Hash(l))
			}
			if strings.Trim(m.Os+m.Arch, mayBeInAWord) == "" && bytes.Equal(bytesOf(m), b) {
				return m, true
			}
		}
	}
	return api.Manifest{}, false
}

// wantDecoded: what Decode tells of bytes is what a search for their manifest tells.
func wantDecoded(t *testing.T, b []byte) {
	t.Helper()
	want, ok := found(b)
	m, e := Decode(b)
	if !ok && (e != api.ErrForm || !same(m, api.Manifest{}) || len(m.Layers) != 0) {
		t.Errorf("Decode of %x: %v, error %d, want none", b, m, e)
	}
	if ok && (e != api.OK || !same(m, want)) {
		t.Errorf("Decode of %x: %v, error %d, want %v", b, m, e, want)
	}
}

func wantNone(t *testing.T, what string, b []byte) {
	t.Helper()
	if m, e := Decode(b); e != api.ErrForm || !same(m, api.Manifest{}) || len(m.Layers) != 0 {
		t.Errorf("%s: Decode: %v, error %d", what, m, e)
	}
}

// P11.3: cut at each place
func TestCut(t *testing.T) {
	for _, m := range rights() {
		b := bytesOf(m)
		for n := range b {
			wantNone(t, "cut", b[:n])
			wantNone(t, "cut at its front", b[n+1:])
		}
	}
	wantNone(t, "nil", nil)
}

// P11.3: bytes that go on
func TestGoingOn(t *testing.T) {
	for _, m := range rights() {
		for c := range 256 {
			wantNone(t, "one byte more", append(bytesOf(m), byte(c)))
		}
		for _, n := range []int{2, 31, 32, 33, 64, 1000} {
			wantNone(t, "more bytes", append(bytesOf(m), make([]byte, n)...))
		}
		wantNone(t, "twice", append(bytesOf(m), bytesOf(m)...))
	}
}

// P11.1: another opening
func TestOpening(t *testing.T) {
	for _, m := range rights() {
		for at := range 3 {
			for c := range 256 {
				b := bytesOf(m)
				if b[at] == byte(c) {
					continue
				}
				b[at] = byte(c)
				wantNone(t, "another opening", b)
			}
		}
	}
}

// P11.1: lengths and counts that are not what follows
func TestLengths(t *testing.T) {
	for _, m := range rights() {
		os, arch, count := byte(len(m.Os)), byte(len(m.Arch)), byte(len(m.Layers))
		for c := range 256 {
			wantDecoded(t, laid(byte(c), m, arch, count))
			wantDecoded(t, laid(os, m, byte(c), count))
			if byte(c) != count {
				wantNone(t, "another count", laid(os, m, arch, byte(c)))
			}
		}
	}
}

// P11.1: words that are none inside, the lengths as they are
func TestNoWordsInside(t *testing.T) {
	for _, wrong := range []string{"", strings.Repeat("a", api.MaxWord+1), strings.Repeat("a", 255), "A", "a.b", "a/b", "\x00", "a\x00", "\u00e9", "\xff", " "} {
		for _, m := range []api.Manifest{{Os: wrong, Arch: "arm"}, {Os: "linux", Arch: wrong}, {Os: wrong, Arch: wrong}} {
			wantNone(t, "no word", bytesOf(m))
			m.Layers = layers(2)
			wantNone(t, "no word", bytesOf(m))
		}
	}
}

// P11.1: more layers than MaxLayers, all of them there
func TestTooManyLayers(t *testing.T) {
	for n := api.MaxLayers + 1; n <= 255; n++ {
		wantNone(t, "too many layers", bytesOf(api.Manifest{Os: "linux", Arch: "arm", Layers: layers(n)}))
	}
	wantNone(t, "more than a byte counts", bytesOf(api.Manifest{Os: "linux", Arch: "arm", Layers: layers(256)}))
}

// P11.1, P11.2, P11.4: each byte of a manifest as each other one
func TestEachByte(t *testing.T) {
	for _, m := range rights() {
		if len(m.Layers) > 2 {
			continue
		}
		for at := range bytesOf(m) {
			for c := range 256 {
				b := bytesOf(m)
				b[at] = byte(c)
				wantDecoded(t, b)
				if got, e := Decode(b); e == api.OK && !bytes.Equal(bytesOf(got), b) {
					t.Errorf("Decode of %x: %v, which has other bytes", b, got)
				}
			}
		}
	}
}

// P11.2: texts that nobody made are what they are encoded to, or none.
func TestAnyBytes(t *testing.T) {
	next := row(1)
	decoded := 0
	for range 20000 {
		b := []byte("DM\x01")
		for range 2 {
			n := 1 + next(3)
			b = append(b, byte(n+next(8)/7))
			for range n {
				b = append(b, mayBeInAWord[next(len(mayBeInAWord))])
			}
		}
		b = append(b, byte(next(3)))
		b = append(b, make([]byte, 32*next(3)+next(12)/11)...)
		wantDecoded(t, b)
		if m, e := Decode(b); e == api.OK {
			decoded++
			if again, _ := Encode(m); !bytes.Equal(again, b) {
				t.Errorf("Encode of Decode of %x: %x", b, again)
			}
		}
	}
	if decoded < 1000 {
		t.Errorf("only %d texts were manifests", decoded)
	}
}
