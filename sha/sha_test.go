package sha

import (
	"bytes"
	"crypto/sha256"
	"strings"
	"testing"

	"dunnage/api"
)

// text is so many bytes, no two neighbours alike, all values among them.
func text(n int) []byte {
	b := make([]byte, n)
	for i := range b {
		b[i] = byte(i*167 + i/256 + 13)
	}
	return b
}

// P2.1: the examples of FIPS 180-4, and of the document.
func TestSumOfKnownTexts(t *testing.T) {
	for _, c := range []struct{ text, want string }{
		{"", "e3b0c44298fc1c149afbf4c8996fb92427ae41e4649b934ca495991b7852b855"},
		{"abc", "ba7816bf8f01cfea414140de5dae2223b00361a396177a9cb410ff61f20015ad"},
		{"abcdbcdecdefdefgefghfghighijhijkijkljklmklmnlmnomnopnopq", "248d6a61d20638b8e5c026930c3e6039a33ce45964ff2167f6ecedd419db06c1"},
		{strings.Repeat("a", 1000000), "cdc76e5c9914fb9281a1c7e284d73e67f1809a48a497200e046d39ccc7112cd0"},
	} {
		if s := Hex(Sum([]byte(c.text))); s != c.want {
			t.Errorf("Sum of %.9q.. (%d bytes): %s, want %s", c.text, len(c.text), s, c.want)
		}
	}
	if Sum(nil) != Sum([]byte{}) {
		t.Error("nil and no bytes have unlike digests")
	}
}

// P2.1: every length around the ends of the padding and of several blocks (55, 56, 63, 64, 119, 120 ..).
func TestSumOfAllLengths(t *testing.T) {
	for n := range 400 {
		b := text(n)
		if Sum(b) != api.Hash(sha256.Sum256(b)) {
			t.Errorf("Sum of %d bytes", n)
		}
		clear(b)
		if Sum(b) != api.Hash(sha256.Sum256(b)) {
			t.Errorf("Sum of %d noughts", n)
		}
	}
	if b := text(70001); Sum(b) != api.Hash(sha256.Sum256(b)) {
		t.Error("Sum of many bytes")
	}
}

// P2.2
func TestHasher(t *testing.T) {
	h := New()
	if h == nil || h.Len() != 0 || h.Sum() != Sum(nil) {
		t.Fatal("a new one has taken bytes")
	}
	b := text(300)
	for i, x := range b {
		h.Write(x)
		if h.Len() != i+1 || h.Sum() != Sum(b[:i+1]) || h.Sum() != h.Sum() {
			t.Errorf("behind %d bytes", i+1)
		}
	}
	h.Write()
	h.Write([]byte(nil)...)
	if h.Len() != 300 || h.Sum() != Sum(b) {
		t.Error("no bytes play a part")
	}
	if other := New(); other.Len() != 0 || other.Sum() != Sum(nil) {
		t.Error("a second one has the first one's bytes")
	}
}

// P2.2, P4
func TestHasherFork(t *testing.T) {
	b := text(200)
	for n := range 150 {
		h := New()
		h.Write(b[:n]...)
		f := h.Fork()
		if f == h || f.Len() != n || f.Sum() != Sum(b[:n]) {
			t.Fatalf("the Fork behind %d bytes", n)
		}
		h.Write(b[n:]...)
		f.Write(1, 2)
		h.Write(3)
		if h.Len() != 201 || h.Sum() != Sum(append(text(200), 3)) {
			t.Errorf("one whose Fork behind %d bytes went on", n)
		}
		if f.Len() != n+2 || f.Sum() != Sum(append(text(200)[:n], 1, 2)) {
			t.Errorf("the Fork behind %d bytes, gone on", n)
		}
	}
}

// P1, P2.2
func TestNil(t *testing.T) {
	var h *Hasher
	h.Write()
	h.Write(1, 2, 3)
	if h.Sum() != (api.Hash{}) || h.Len() != 0 || h.Fork() != nil {
		t.Error("nil has something")
	}
}

// P2.4
func TestPiecesPlayNoPart(t *testing.T) {
	b := text(260)
	want := Sum(b)
	for i := range len(b) + 1 {
		h := New()
		h.Write(b[:i]...)
		h.Write(b[i:]...)
		if h.Sum() != want || h.Len() != len(b) {
			t.Errorf("cut at %d", i)
		}
	}
	for size := 1; size <= 130; size++ {
		h := New()
		for rest := b; len(rest) > 0; rest = rest[min(size, len(rest)):] {
			h.Write(rest[:min(size, len(rest))]...)
			h.Sum()
		}
		if h.Sum() != want || h.Len() != len(b) {
			t.Errorf("pieces of %d", size)
		}
	}
}

// P3
func TestHandedInStays(t *testing.T) {
	b := text(200)
	h := New()
	h.Write(b[:100]...)
	Sum(b[:55])
	Crc(b[:100])
	if h.Sum(); !bytes.Equal(b, text(200)) {
		t.Error("what was handed in has changed")
	}
	clear(b)
	if h.Sum() != Sum(text(200)[:100]) {
		t.Error("what was handed in is kept")
	}
}
