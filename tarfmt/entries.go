package tarfmt

import (
	"iter"

	"dunnage/api"
)

const (
	mostMode = 4095
	endBytes = 2 * headerBytes // the two headers of noughts
)

// filled is a number of bytes of data, filled to whole headers.
func filled(n int) int {
	return (n + headerBytes - 1) / headerBytes * headerBytes
}

// tarBytes is how many bytes the tar of right entries has.
func tarBytes(l []api.Entry) int {
	n := endBytes
	for _, e := range l {
		n += headerBytes + filled(len(e.Data))
	}
	return n
}

// write writes a right entry on noughts; it tells what is left of them.
func write(b []byte, e api.Entry) []byte {
	h := cut(b[:headerBytes])
	h.fill(e)
	putNumber(h.sum, Sum(b[:headerBytes]))
	copy(b[headerBytes:], e.Data)
	return b[headerBytes+filled(len(e.Data)):]
}

// entries yields the entries of a tar one by one, each with the place of its header; of a header that is none the zero entry, and then no more. An end that is none is told at its first header.
func entries(b []byte) iter.Seq2[int, api.Entry] {
	return func(yield func(int, api.Entry) bool) {
		for at := 0; !isEnd(b[at:]); {
			e, n := read(b[at:])
			if !yield(at, e) || n == 0 {
				return
			}
			at += n
		}
	}
}

// isEnd tells whether bytes are what a tar ends with.
func isEnd(b []byte) bool {
	return len(b) >= endBytes && len(b)%headerBytes == 0 && isNoughts(b)
}

// read is the entry that bytes begin with, and how many bytes it takes; 0, if its header is none. One of noughts is none: it has no digits.
func read(b []byte) (e api.Entry, n int) {
	var h header
	var size, sum int
	var ok bool
	if len(b) < headerBytes {
		goto none
	}
	h = cut(b[:headerBytes])
	if sum, ok = sumOf(h.sum); !ok || sum != Sum(b[:headerBytes]) {
		goto none
	}
	if !h.isFormed() {
		goto none
	}
	e, size = h.entry()
	b = b[headerBytes:]
	if filled(size) > len(b) || !isNoughts(b[size:filled(size)]) {
		goto none
	}
	e.Data = append(e.Data, b[:size]...)
	if Right(e) != api.OK {
		goto none
	}
	return e, headerBytes + filled(size)
none:
	return api.Entry{}, 0
}
