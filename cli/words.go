package cli

import (
	"iter"
	"slices"
	"strconv"
	"strings"

	"dunnage/api"
	"dunnage/sha"
)

const mostNumber = 1 << 40

// lines yields those of a script, without their ends.
func lines(script string) iter.Seq[string] {
	return func(yield func(string) bool) {
		for text := range strings.Lines(script) {
			if !yield(strings.TrimSuffix(text, "\n")) {
				return
			}
		}
	}
}

func yes(told ...string) string {
	return strings.Join(append([]string{"ok"}, told...), " ")
}

func no(e api.Errno) string {
	return "no " + strconv.Itoa(int(e))
}

// line has the words of one that were not read yet.
type line struct {
	rest []string
}

func (l *line) isOver() bool {
	return len(l.rest) == 0
}

// words reads those of a line as what a command asks for.
type words struct {
	line
	wrong bool // one was missing, or not what was asked for
}

// wordsOf are those of a line. With a blank too many there is an empty one, which is none.
func wordsOf(text string) *words {
	list := strings.Split(text, " ")
	return &words{line{list}, slices.Contains(list, "")}
}

// need notes what must hold of a line that is a command.
func (w *words) need(holds bool) {
	if !holds {
		w.wrong = true
	}
}

// areRight tells, behind all that a command asks for, whether the line was just that.
func (w *words) areRight() bool {
	return !w.wrong && w.isOver()
}

// next is the next word, whatever it is.
func (w *words) next() string {
	w.need(!w.isOver())
	if w.isOver() {
		return ""
	}
	word := w.rest[0]
	w.rest = w.rest[1:]
	return word
}

func (w *words) digest() api.Hash {
	h, e := sha.UnHex(w.next())
	w.need(e == api.OK)
	return h
}

func (w *words) digits() []byte {
	b, e := UnHex(w.next())
	w.need(e == api.OK)
	return b
}

// digests are all words that are left, at most so many.
func (w *words) digests(most int) []api.Hash {
	w.need(len(w.rest) <= most)
	var list []api.Hash
	for !w.isOver() {
		list = append(list, w.digest())
	}
	return list
}

// entries are all words that are left, at most so many.
func (w *words) entries(most int) []api.Entry {
	w.need(len(w.rest) <= most)
	var list []api.Entry
	for !w.isOver() {
		e, ok := entryOf(w.next())
		w.need(ok)
		list = append(list, e)
	}
	return list
}

// entryOf is the entry of a tar that a word tells; false, if it tells none.
func entryOf(word string) (e api.Entry, ok bool) {
	kind, rest, _ := strings.Cut(word, ":")
	parts := strings.Split(rest, ":")
	e.Name = parts[0]
	switch {
	case kind == "f" && len(parts) == 3:
		e.Kind = api.File
		b, err := UnHex(parts[2])
		e.Data = b
		e.Mode, ok = numberOf(parts[1])
		return e, ok && err == api.OK
	case kind == "d" && len(parts) == 2:
		e.Kind = api.Dir
		e.Mode, ok = numberOf(parts[1])
		return e, ok
	case kind == "l" && len(parts) == 2:
		e.Kind, e.Link = api.Link, parts[1]
		return e, true
	case kind == "h" && len(parts) == 2:
		e.Kind, e.Link = api.Hard, parts[1]
		return e, true
	}
	return api.Entry{}, false
}

// numberOf is the number that a text is: just as it would be told, so that there are no noughts or signs ahead.
func numberOf(text string) (int, bool) {
	n, err := strconv.Atoi(text)
	return n, err == nil && n >= 0 && n <= mostNumber && strconv.Itoa(n) == text
}
