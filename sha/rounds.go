package sha

import (
	"math/bits"

	"dunnage/api"
)

const (
	blockBytes = 64
	rounds     = 64
	blockWords = 16
	sizeBytes  = 8 // of the padding: how many bits there are
)

// digest is one that is running; block is what it is mixed with.
type (
	digest [8]uint32
	block  [blockBytes]byte
)

// FIPS 180-4, 5.3.3.
var start = digest{
	0x6a09e667, 0xbb67ae85, 0x3c6ef372, 0xa54ff53a, 0x510e527f, 0x9b05688c, 0x1f83d9ab, 0x5be0cd19,
}

// FIPS 180-4, 4.2.2: one constant a round.
var roundWords = [rounds]uint32{
	0x428a2f98, 0x71374491, 0xb5c0fbcf, 0xe9b5dba5, 0x3956c25b, 0x59f111f1, 0x923f82a4, 0xab1c5ed5,
	0xd807aa98, 0x12835b01, 0x243185be, 0x550c7dc3, 0x72be5d74, 0x80deb1fe, 0x9bdc06a7, 0xc19bf174,
	0xe49b69c1, 0xefbe4786, 0x0fc19dc6, 0x240ca1cc, 0x2de92c6f, 0x4a7484aa, 0x5cb0a9dc, 0x76f988da,
	0x983e5152, 0xa831c66d, 0xb00327c8, 0xbf597fc7, 0xc6e00bf3, 0xd5a79147, 0x06ca6351, 0x14292967,
	0x27b70a85, 0x2e1b2138, 0x4d2c6dfc, 0x53380d13, 0x650a7354, 0x766a0abb, 0x81c2c92e, 0x92722c85,
	0xa2bfe8a1, 0xa81a664b, 0xc24b8b70, 0xc76c51a3, 0xd192e819, 0xd6990624, 0xf40e3585, 0x106aa070,
	0x19a4c116, 0x1e376c08, 0x2748774c, 0x34b0bcb5, 0x391c0cb3, 0x4ed8aa4a, 0x5b9cca4f, 0x682e6ff3,
	0x748f82ee, 0x78a5636f, 0x84c87814, 0x8cc70208, 0x90befffa, 0xa4506ceb, 0xbef9a3f7, 0xc67178f2,
}

// mixed is the digest behind one more block.
func (d digest) mixed(b block) digest {
	v := d
	w := words(b)
	for t := range rounds {
		if t < blockWords { // the block's own words stand as they are
			goto mix
		}
		w[t%blockWords] += spread(w, t)
	mix:
		v = v.turned(roundWords[t] + w[t%blockWords])
	}
	for i := range d {
		d[i] += v[i]
	}
	return d
}

func words(b block) [blockWords]uint32 {
	var w [blockWords]uint32
	for i, x := range b {
		w[i/4] = w[i/4]<<8 | uint32(x)
	}
	return w
}

// spread is what the round t adds to the word of 16 rounds ago; w holds the last 16 words, each at its round's place.
func spread(w [blockWords]uint32, t int) uint32 {
	x, y := w[(t+1)%blockWords], w[(t+14)%blockWords]
	x = bits.RotateLeft32(x, -7) ^ bits.RotateLeft32(x, -18) ^ x>>3
	y = bits.RotateLeft32(y, -17) ^ bits.RotateLeft32(y, -19) ^ y>>10
	return x + w[(t+9)%blockWords] + y
}

// turned is one round.
func (d digest) turned(word uint32) digest {
	a, e := d[0], d[4]
	choice := e&d[5] ^ ^e&d[6]
	majority := a&d[1] ^ a&d[2] ^ d[1]&d[2]
	low := bits.RotateLeft32(e, -6) ^ bits.RotateLeft32(e, -11) ^ bits.RotateLeft32(e, -25)
	high := bits.RotateLeft32(a, -2) ^ bits.RotateLeft32(a, -13) ^ bits.RotateLeft32(a, -22)
	fresh := d[7] + low + choice + word
	return digest{fresh + high + majority, a, d[1], d[2], d[3] + fresh, e, d[5], d[6]}
}

// padding is what comes behind so many bytes, so that they end with a block.
func padding(size int) []byte {
	noughts := (2*blockBytes - 1 - sizeBytes - size%blockBytes) % blockBytes
	p := make([]byte, 1+noughts, 1+noughts+sizeBytes)
	p[0] = 0x80
	bitSize := uint64(size) * 8
	for i := range sizeBytes {
		p = append(p, byte(bitSize>>(8*(sizeBytes-1-i))))
	}
	return p
}

func (d digest) bytes() api.Hash {
	var h api.Hash
	for i := range h {
		h[i] = byte(d[i/4] >> (24 - 8*(i%4)))
	}
	return h
}
