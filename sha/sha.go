// Package sha is digests and sums. See ../../shared/doc/02-sha.md.
package sha

import "dunnage/api"

// Sum is the SHA-256 of bytes.
func Sum(b []byte) api.Hash {
	h := New()
	h.Write(b...)
	return h.Sum()
}

// Hasher takes bytes piece by piece.
type Hasher struct {
	run  digest
	rest block // its first size % blockBytes bytes are taken, and not yet in run
	size int   // bytes taken
}

// New has taken none.
func New() *Hasher {
	return &Hasher{run: start}
}

// Write takes more.
func (h *Hasher) Write(b ...byte) {
	if h == nil {
		return
	}
	for len(b) > 0 {
		n := copy(h.rest[h.size%blockBytes:], b)
		h.size += n
		b = b[n:]
		if h.size%blockBytes == 0 {
			h.run = h.run.mixed(h.rest)
		}
	}
}

// Sum is the SHA-256 of all so far.
func (h *Hasher) Sum() api.Hash {
	if h == nil {
		return api.Hash{}
	}
	end := h.Fork() // more may come behind: the padding must not stay
	end.Write(padding(h.size)...)
	return end.run.bytes()
}

// Len is how many bytes were taken.
func (h *Hasher) Len() int {
	if h == nil {
		return 0
	}
	return h.size
}

// Fork is another one with the same.
func (h *Hasher) Fork() *Hasher {
	if h == nil {
		return nil
	}
	f := *h
	return &f
}
