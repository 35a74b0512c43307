package manifest

import "dunnage/api"

// opening is what the bytes of each manifest begin with.
const opening = "\x44\x4d\x01"

// appendWord appends a word behind its length, which has room in a byte.
func appendWord(b []byte, word string) []byte {
	b = append(b, byte(len(word)))
	return append(b, word...)
}

// reader has the bytes that are not read yet.
type reader struct {
	rest []byte
}

// next is so many bytes more; false, if it is cut short.
func (r *reader) next(n int) ([]byte, bool) {
	if n > len(r.rest) {
		return nil, false
	}
	piece := r.rest[:n]
	r.rest = r.rest[n:]
	return piece, true
}

// word is a text behind its length.
func (r *reader) word() (string, bool) {
	length, ok := r.next(1)
	if !ok {
		return "", false
	}
	text, ok := r.next(int(length[0]))
	return string(text), ok
}

// read is what bytes tell, be it right or not; false, if they are cut short, go on, or open in another way.
func read(b []byte) (m api.Manifest, ok bool) {
	var piece []byte
	r := reader{b}
	if piece, ok = r.next(len(opening)); !ok || string(piece) != opening {
		goto none
	}
	if m.Os, ok = r.word(); !ok {
		goto none
	}
	if m.Arch, ok = r.word(); !ok {
		goto none
	}
	if piece, ok = r.next(1); !ok {
		goto none
	}
	for range piece[0] {
		if piece, ok = r.next(len(api.Hash{})); !ok {
			goto none
		}
		m.Layers = append(m.Layers, api.Hash(piece))
	}
	return m, len(r.rest) == 0
none:
	return api.Manifest{}, false
}
