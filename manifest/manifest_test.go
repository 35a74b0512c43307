package manifest

import (
	"bytes"
	"crypto/sha256"
	"encoding/hex"
	"slices"
	"strings"
	"testing"

	"dunnage/api"
	"dunnage/sha"
)

const mayBeInAWord = "abcdefghijklmnopqrstuvwxyz0123456789-"

func wantError(t *testing.T, what string, got, want api.Errno) {
	t.Helper()
	if got != want {
		t.Errorf("%s: error %d, want %d", what, got, want)
	}
}

// layers is so many digests, unlike each other.
func layers(n int) []api.Hash {
	l := make([]api.Hash, n)
	for i := range l {
		l[i] = api.Hash(sha256.Sum256([]byte{byte(i)}))
	}
	return l
}

func same(a, b api.Manifest) bool {
	return a.Os == b.Os && a.Arch == b.Arch && slices.Equal(a.Layers, b.Layers)
}

// laid is a manifest's bytes by the chapter's words, whatever it holds, with lengths and a count of one's own.
func laid(os byte, m api.Manifest, arch, count byte) []byte {
	b := []byte{'D', 'M', 1, os}
	b = append(b, m.Os...)
	b = append(b, arch)
	b = append(b, m.Arch...)
	b = append(b, count)
	for i := range m.Layers {
		b = append(b, m.Layers[i][:]...)
	}
	return b
}

func bytesOf(m api.Manifest) []byte {
	return laid(byte(len(m.Os)), m, byte(len(m.Arch)), byte(len(m.Layers)))
}

// rights is right manifests, unlike each other, those at the edges among them.
func rights() []api.Manifest {
	long := strings.Repeat("z", api.MaxWord)
	again := layers(3)
	return []api.Manifest{
		{Os: "linux", Arch: "arm"},
		{Os: "linux", Arch: "arm", Layers: layers(1)},
		{Os: "linux", Arch: "arm", Layers: []api.Hash{{}}},
		{Os: "linux", Arch: "arm", Layers: []api.Hash{{}, {}}},
		{Os: "linux", Arch: "arm", Layers: []api.Hash{{31: 1}}},
		{Os: "linux", Arch: "arm", Layers: again},
		{Os: "linux", Arch: "arm", Layers: []api.Hash{again[1], again[0], again[2]}},
		{Os: "linux", Arch: "arm", Layers: []api.Hash{again[0], again[1], again[0]}},
		{Os: "linux", Arch: "arm", Layers: []api.Hash{again[0], again[0], again[0]}},
		{Os: "arm", Arch: "linux"},
		{Os: "linuxa", Arch: "rm"},
		{Os: "linux", Arch: "arm64"},
		{Os: "a", Arch: "b"},
		{Os: "-", Arch: "-"},
		{Os: "0", Arch: "9", Layers: layers(api.MaxLayers - 1)},
		{Os: "a", Arch: "b", Layers: layers(api.MaxLayers)},
		{Os: long, Arch: long, Layers: layers(api.MaxLayers)},
		{Os: long, Arch: "b"},
		{Os: "a", Arch: long},
		{Os: mayBeInAWord[:24], Arch: mayBeInAWord[13:], Layers: layers(2)},
	}
}

// P11.1: DOC.md's words of 1 to MaxWord bytes
func TestWordsByTheirLength(t *testing.T) {
	for n := range 3 * api.MaxWord {
		want := n >= 1 && n <= api.MaxWord
		for _, c := range []string{"a", "z", "0", "9", "-"} {
			if s := strings.Repeat(c, n); IsWord(s) != want {
				t.Errorf("IsWord of %q: %v", s, !want)
			}
		}
	}
	for _, n := range []int{255, 256, 257, 256 + api.MaxWord, 1 << 16} {
		if IsWord(strings.Repeat("a", n)) {
			t.Errorf("a word of %d bytes", n)
		}
	}
}

// P11.1: DOC.md's words have a to z, 0 to 9 and -, at each place
func TestWordsByTheirBytes(t *testing.T) {
	for c := range 256 {
		want := strings.IndexByte(mayBeInAWord, byte(c)) >= 0
		for _, word := range []string{"x", "xy", "arm-64", strings.Repeat("a", api.MaxWord)} {
			for at := range len(word) {
				if s := word[:at] + string([]byte{byte(c)}) + word[at+1:]; IsWord(s) != want {
					t.Errorf("IsWord of %q: %v", s, !want)
				}
			}
		}
	}
	for _, s := range []string{"\u00e9", "\uff41", "\u0430", "\u0663", "\xc3", "linux/arm", "v1.2", "a b", " a", "a ", "a\n", "A", "Linux", "a_b"} {
		if IsWord(s) {
			t.Errorf("%q is no word", s)
		}
	}
}

// P11.1, P2
func TestRight(t *testing.T) {
	for _, m := range rights() {
		wantError(t, m.Os+" "+m.Arch, Right(m), api.OK)
	}
	long := strings.Repeat("a", api.MaxWord+1)
	for _, wrong := range []string{"", long, "A", "a.b", "a/b", "\x00", "\u00e9", "a "} {
		for _, n := range []int{0, api.MaxLayers, api.MaxLayers + 1, 300} {
			for _, m := range []api.Manifest{{Os: wrong, Arch: "arm"}, {Os: "linux", Arch: wrong}, {Os: wrong, Arch: wrong}} {
				m.Layers = layers(n)
				wantRefused(t, m, api.ErrName)
			}
		}
	}
	for _, n := range []int{api.MaxLayers + 1, api.MaxLayers + 2, 255, 256, 256 + api.MaxLayers, 1000} {
		wantRefused(t, api.Manifest{Os: "linux", Arch: "arm", Layers: layers(n)}, api.ErrLong)
		wantRefused(t, api.Manifest{Os: "linux", Arch: "arm", Layers: make([]api.Hash, n)}, api.ErrLong)
	}
}

// wantRefused: a manifest that is not right has neither bytes nor a digest.
func wantRefused(t *testing.T, m api.Manifest, want api.Errno) {
	t.Helper()
	wantError(t, "Right", Right(m), want)
	if b, e := Encode(m); len(b) != 0 || e != want {
		t.Errorf("Encode: %x, error %d, want %d", b, e, want)
	}
	if h, e := Digest(m); h != (api.Hash{}) || e != want {
		t.Errorf("Digest: %x, error %d, want %d", h, e, want)
	}
}

// P11.1, the chapter's example
func TestExample(t *testing.T) {
	m := api.Manifest{Os: "linux", Arch: "arm"}
	want, _ := hex.DecodeString("444d01056c696e75780361726d00")
	if b, e := Encode(m); !bytes.Equal(b, want) || e != api.OK {
		t.Errorf("Encode: %x, error %d", b, e)
	}
	if got, e := Decode(want); !same(got, m) || e != api.OK {
		t.Errorf("Decode: %v, error %d", got, e)
	}
	if h, e := Digest(m); h != api.Hash(sha256.Sum256(want)) || e != api.OK {
		t.Errorf("Digest: %x, error %d", h, e)
	}
}

// P11.1, P11.2, E3
func TestThereAndBack(t *testing.T) {
	for _, m := range rights() {
		want := bytesOf(m)
		b, e := Encode(m)
		if !bytes.Equal(b, want) || e != api.OK {
			t.Errorf("Encode of %v: %x, error %d", m, b, e)
		}
		if got, e := Decode(want); !same(got, m) || e != api.OK {
			t.Errorf("Decode of %x: %v, error %d", want, got, e)
		}
		if h, e := Digest(m); h != sha.Sum(want) || e != api.OK {
			t.Errorf("Digest of %v: %x, error %d", m, h, e)
		}
	}
}

// P11.4
func TestUnlikeBytes(t *testing.T) {
	for i, m := range rights() {
		for j, other := range rights() {
			a, _ := Encode(m)
			b, _ := Encode(other)
			h, _ := Digest(m)
			g, _ := Digest(other)
			if bytes.Equal(a, b) != (i == j) || (h == g) != (i == j) {
				t.Errorf("%v and %v", m, other)
			}
		}
	}
}

// P11.1: of any manifest, be it right or not
func TestUses(t *testing.T) {
	l := layers(4)
	for _, os := range []string{"linux", "", "A"} {
		m := api.Manifest{Os: os, Arch: "arm", Layers: []api.Hash{l[0], l[1], l[0], {}, l[0], l[2], l[1], l[0], l[0], l[0]}}
		for _, c := range []struct {
			h    api.Hash
			want int
		}{{l[0], 6}, {l[1], 2}, {l[2], 1}, {l[3], 0}, {api.Hash{}, 1}, {api.Hash{31: 1}, 0}} {
			if n := Uses(m, c.h); n != c.want {
				t.Errorf("Uses of %x: %d, want %d", c.h, n, c.want)
			}
		}
		for _, none := range [][]api.Hash{nil, {}} {
			m.Layers = none
			if n := Uses(m, api.Hash{}); n != 0 {
				t.Errorf("Uses of no layers: %d", n)
			}
		}
	}
}

// P11.1: digests that are unlike in one bit alone are unlike.
func TestUsesOfEachBit(t *testing.T) {
	h := layers(1)[0]
	for bit := range 8 * len(h) {
		other := h
		other[bit/8] ^= 1 << (bit % 8)
		m := api.Manifest{Os: "linux", Arch: "arm", Layers: []api.Hash{other, h, other}}
		if Uses(m, h) != 1 || Uses(m, other) != 2 {
			t.Errorf("bit %d: %d and %d", bit, Uses(m, h), Uses(m, other))
		}
	}
}
