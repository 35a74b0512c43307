package cli

import (
	"strconv"
	"strings"

	"dunnage/api"
	"dunnage/manifest"
	"dunnage/sha"
	"dunnage/tarfmt"
	"dunnage/union"
)

const (
	mostEntries = 16
	roots       = "/roots"
)

// job is what a command does once all of its line is read: what is told, or its error.
type job func() ([]string, api.Errno)

// commands are all of them, by their first word. Each one reads the words behind it, and does nothing yet:
// whether the line is a command at all, is known only behind the last one.
func (s *Shell) commands() map[string]func(w *words) job {
	return map[string]func(w *words) job{
		"put":      s.put,
		"manifest": s.manifest,
		"layer":    s.layer,
		"get":      s.get,
		"count":    s.count,
		"release":  s.release,
		"tag":      s.tag,
		"untag":    s.untag,
		"tags":     s.tags,
		"pin":      s.pin,
		"unpin":    s.unpin,
		"pins":     s.pins,
		"ls":       s.ls,
		"cat":      s.cat,
		"tar":      s.tar,
		"blobs":    s.blobs,
		"audit":    s.audit,
		"free":     s.free,
	}
}

func (s *Shell) put(w *words) job {
	b := w.digits()
	return func() ([]string, api.Errno) { return s.hold(b, api.OK) }
}

func (s *Shell) manifest(w *words) job {
	m := api.Manifest{Os: w.next(), Arch: w.next(), Layers: w.digests(api.MaxLayers)}
	return func() ([]string, api.Errno) { return s.hold(manifest.Encode(m)) }
}

func (s *Shell) layer(w *words) job {
	l := w.entries(mostEntries)
	return func() ([]string, api.Errno) { return s.hold(tarfmt.Print(l...)) }
}

func (s *Shell) get(w *words) job {
	h := w.digest()
	return func() ([]string, api.Errno) { return tellBytes(s.store.Blobs().Get(h)) }
}

func (s *Shell) count(w *words) job {
	h := w.digest()
	return func() ([]string, api.Errno) {
		if !s.store.Blobs().Has(h) {
			return nil, api.ErrNone
		}
		return tellNumbers(s.store.Count(h), s.store.Holds(h)), api.OK
	}
}

func (s *Shell) release(w *words) job {
	h := w.digest()
	return func() ([]string, api.Errno) { return nil, s.store.Release(h) }
}

func (s *Shell) tag(w *words) job {
	word, h := w.next(), w.digest()
	return func() ([]string, api.Errno) { return nil, s.store.Tag(word, h) }
}

func (s *Shell) untag(w *words) job {
	word := w.next()
	return func() ([]string, api.Errno) { return nil, s.store.Untag(word) }
}

func (s *Shell) tags(*words) job {
	return func() ([]string, api.Errno) { return tellWords(s.store.Tags(), s.store.Tagged), api.OK }
}

func (s *Shell) pin(w *words) job {
	word, tag := w.next(), w.next()
	return func() ([]string, api.Errno) { return nil, s.store.Pin(word, tag) }
}

func (s *Shell) unpin(w *words) job {
	word := w.next()
	return func() ([]string, api.Errno) { return nil, s.store.Unpin(word) }
}

func (s *Shell) pins(*words) job {
	return func() ([]string, api.Errno) { return tellWords(s.store.Pins(), s.store.Pinned), api.OK }
}

func (s *Shell) ls(w *words) job {
	path := w.next()
	return func() ([]string, api.Errno) {
		below, e := belowRoots(path)
		if e != api.OK {
			return nil, e
		}
		return s.files().List(below)
	}
}

func (s *Shell) cat(w *words) job {
	path := w.next()
	return func() ([]string, api.Errno) {
		below, e := belowRoots(path)
		if e != api.OK {
			return nil, e
		}
		return tellBytes(s.files().Read(below))
	}
}

func (s *Shell) tar(w *words) job {
	word := w.next()
	return func() ([]string, api.Errno) {
		if _, e := s.store.Pinned(word); e != api.OK {
			return nil, e
		}
		l, e := union.Export(s.files(), roots+"/"+word)
		if e != api.OK {
			return nil, e
		}
		return s.hold(tarfmt.Print(l...))
	}
}

func (s *Shell) blobs(*words) job {
	return func() ([]string, api.Errno) { return tellDigests(s.store.Blobs().List()) }
}

func (s *Shell) audit(*words) job {
	return func() ([]string, api.Errno) { return nil, s.Check() }
}

func (s *Shell) free(*words) job {
	return func() ([]string, api.Errno) { return tellNumbers(s.files().Free()), api.OK }
}

// hold puts bytes, if there was no error as they were made: their digest is told.
func (s *Shell) hold(b []byte, e api.Errno) ([]string, api.Errno) {
	if e != api.OK {
		return nil, e
	}
	h, e := s.store.Put(b...)
	if e != api.OK {
		return nil, e
	}
	return tellDigests([]api.Hash{h}, api.OK)
}

// belowRoots is where the path of a line lies in the file system.
func belowRoots(path string) (string, api.Errno) {
	if !strings.HasPrefix(path, "/") {
		return "", api.ErrName
	}
	if path == "/" {
		return roots, api.OK
	}
	return roots + path, api.OK
}

func tellBytes(b []byte, e api.Errno) ([]string, api.Errno) {
	if e != api.OK {
		return nil, e
	}
	return []string{Hex(b)}, api.OK
}

func tellDigests(list []api.Hash, e api.Errno) ([]string, api.Errno) {
	var told []string
	for _, h := range list {
		told = append(told, sha.Hex(h))
	}
	return told, e
}

func tellNumbers(a, b int) []string {
	return []string{strconv.Itoa(a), strconv.Itoa(b)}
}

// tellWords are words, each with what it stands for.
func tellWords(words []string, standsFor func(word string) (api.Hash, api.Errno)) []string {
	var told []string
	for _, word := range words {
		h, _ := standsFor(word)
		told = append(told, word+"="+sha.Hex(h))
	}
	return told
}
