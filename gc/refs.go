package gc

import (
	"bytes"
	"maps"
	"slices"

	"dunnage/api"
	"dunnage/manifest"
	"dunnage/octets"
	"dunnage/sha"
)

// The bytes of /refs: the opening; how many blobs have holds, and of each, rising, its digest and its holds;
// how many tags, and of each, by its bytes, its length, it, and the digest that it stands for; the pins likewise; and their sum.
const (
	opening    = "DR\x01"
	blobsBytes = 2 // of how many blobs have holds
	holdsBytes = 3 // of how many holds one has
	wordsBytes = 1 // of how many words there are, and of a word's length
	sumBytes   = 4
)

func appendNumber(b []byte, width, n int) []byte {
	digits := make([]byte, width)
	octets.Put(digits, n)
	return append(b, digits...)
}

// encoded are the bytes of references, in just one way.
func (r references) encoded() []byte {
	b := appendNumber([]byte(opening), blobsBytes, len(r.holds))
	for _, h := range slices.SortedFunc(maps.Keys(r.holds), byBytes) {
		b = append(b, h[:]...)
		b = appendNumber(b, holdsBytes, r.holds[h])
	}
	b = appendWords(b, r.tags)
	b = appendWords(b, r.pins)
	return appendNumber(b, sumBytes, int(sha.Crc(b)))
}

func appendWords(b []byte, words map[string]api.Hash) []byte {
	b = appendNumber(b, wordsBytes, len(words))
	for _, word := range slices.Sorted(maps.Keys(words)) {
		b = appendNumber(b, wordsBytes, len(word))
		b = append(b, word...)
		h := words[word]
		b = append(b, h[:]...)
	}
	return b
}

func byBytes(a, b api.Hash) int {
	return bytes.Compare(a[:], b[:])
}

// read lets references that are none yet be those of bytes; false, if these are not such as encoded writes.
// Whatever was read of bytes that are cut short or wrong, they are not what it is encoded to.
func (r references) read(b []byte) bool {
	x := reader{b}
	x.next(len(opening))
	for range x.number(blobsBytes) {
		h := x.hash()
		r.holds[h] = x.number(holdsBytes)
	}
	x.readWords(r.tags)
	x.readWords(r.pins)
	return r.isRight() && bytes.Equal(r.encoded(), b)
}

// isRight tells whether references keep to the limits.
func (r references) isRight() bool {
	for _, n := range r.holds {
		if n < 1 || n > api.MaxHolds {
			return false
		}
	}
	return areWords(r.tags, api.MaxTags) && areWords(r.pins, api.MaxPins)
}

func areWords(words map[string]api.Hash, most int) bool {
	for word := range words {
		if !manifest.IsWord(word) {
			return false
		}
	}
	return len(words) <= most
}

// reader has the bytes that were not read yet; behind their end it reads noughts.
type reader struct {
	rest []byte
}

func (x *reader) next(n int) []byte {
	piece := make([]byte, n)
	x.rest = x.rest[copy(piece, x.rest):]
	return piece
}

func (x *reader) number(width int) int {
	return octets.Number(x.next(width))
}

func (x *reader) hash() api.Hash {
	return api.Hash(x.next(len(api.Hash{})))
}

func (x *reader) readWords(words map[string]api.Hash) {
	for range x.number(wordsBytes) {
		word := string(x.next(x.number(wordsBytes)))
		words[word] = x.hash()
	}
}
