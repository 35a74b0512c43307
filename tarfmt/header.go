package tarfmt

import "dunnage/api"

const (
	headerBytes = 512
	sign        = "\x75\x73\x74\x61\x72\x00\x30\x30"
)

// header is the fields of one, in their order.
type header struct {
	name, mode, user, group, size, time, sum, kind, link, sign []byte
	userName, groupName, major, minor, prefix, noughts         []byte
}

// cut is the fields of a header's bytes. None has room behind its end: what is written to it can't run into the next one.
func cut(b []byte) header {
	next := func(n int) []byte {
		field := b[:n:n]
		b = b[n:]
		return field
	}
	return header{
		name:      next(mostName),
		mode:      next(8),
		user:      next(8),
		group:     next(8),
		size:      next(12),
		time:      next(12),
		sum:       next(8),
		kind:      next(1),
		link:      next(mostLink),
		sign:      next(len(sign)),
		userName:  next(32),
		groupName: next(32),
		major:     next(8),
		minor:     next(8),
		prefix:    next(mostPrefix),
		noughts:   next(12),
	}
}

// numbers is the fields that are written as numbers; without the sum, which has a way more.
func (h header) numbers() [][]byte {
	return [][]byte{h.mode, h.user, h.group, h.size, h.time, h.major, h.minor}
}

func (h header) texts() [][]byte {
	return [][]byte{h.name, h.link, h.userName, h.groupName, h.prefix}
}

// isFormed tells whether each field is such as it must be, what the type is and whether the sum is right left aside.
func (h header) isFormed() bool {
	for _, f := range h.numbers() {
		if _, ok := number(f); !ok {
			return false
		}
	}
	for _, f := range h.texts() {
		if _, ok := text(f); !ok {
			return false
		}
	}
	return string(h.sign) == sign && isNoughts(h.noughts)
}

// entry is what the fields of a formed header tell, and how many bytes of data there should be.
func (h header) entry() (e api.Entry, size int) {
	e.Kind = kindOf(h.kind[0])
	e.Mode, _ = number(h.mode)
	e.Name, _ = text(h.name)
	e.Link, _ = text(h.link)
	if prefix, _ := text(h.prefix); prefix != "" {
		e.Name = prefix + "/" + e.Name
	}
	size, _ = number(h.size)
	return e, size
}

// fill writes the header of a right entry on noughts; its sum is left out.
func (h header) fill(e api.Entry) {
	for _, f := range h.numbers() {
		putNumber(f, 0)
	}
	prefix, name, _ := part(e.Name)
	copy(h.name, name)
	copy(h.prefix, prefix)
	copy(h.link, e.Link)
	copy(h.sign, sign)
	putNumber(h.mode, e.Mode)
	putNumber(h.size, len(e.Data))
	h.kind[0] = typeOf(e.Kind)
}

func typeOf(k api.Kind) byte {
	switch k {
	case api.Hard:
		return 49
	case api.Link:
		return 50
	case api.Dir:
		return 53
	}
	return 48
}

// kindOf is NoKind of a type that is none: no right entry has it.
func kindOf(t byte) api.Kind {
	switch t {
	case 0, 48:
		return api.File
	case 49:
		return api.Hard
	case 50:
		return api.Link
	case 53:
		return api.Dir
	}
	return api.NoKind
}
