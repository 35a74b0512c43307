package fsck

import (
	"iter"
	"slices"
	"strings"

	"dunnage/api"
	"dunnage/octets"
)

// Of an entry's bytes: where the name's length stands, and where the name begins; the inode's number is ahead.
const (
	lengthAt = 4
	nameAt   = 5
)

// written yields the entries of a directory's bytes that are not 0 everywhere.
func written(b []byte) iter.Seq[[]byte] {
	return func(yield func([]byte) bool) {
	all:
		for entry := range slices.Chunk(b, api.EntryBytes) {
			for _, octet := range entry {
				if octet == 0 {
					continue
				}
				if !yield(entry) {
					break all
				}
				continue all
			}
		}
	}
}

// entries is point 4, of a directory's bytes: what its names stand for.
func (x *search) entries(b []byte) []int {
	var list []int
	names := map[string]struct{}{}
	for entry := range written(b) {
		i, name := x.entry(entry)
		_, twice := names[name]
		need(4, !twice)
		names[name] = struct{}{}
		list = append(list, i)
	}
	need(4, len(b) == 0 || len(list) > 0)
	return list
}

// entry is one that is not free: its inode, and its name.
func (x *search) entry(b []byte) (int, string) {
	i, length := octets.Number(b[:lengthAt]), int(b[lengthAt])
	need(4, i > root && x.Map().UsedInode(i))
	need(4, length <= api.MaxName)
	name, rest := string(b[nameAt:][:length]), b[nameAt+length:]
	need(4, isName(name))
	for _, octet := range rest {
		need(4, octet == 0)
	}
	return i, name
}

// isName tells whether a text that is not too long is a name.
func isName(s string) bool {
	return s != "" && s != "." && s != ".." && !strings.ContainsAny(s, "\x00/")
}
