package tarfmt

import (
	"math"
	"slices"
	"strings"
	"testing"

	"dunnage/api"
)

// rightByTheWords is Right's answer, put together from what the chapter says of an entry.
func rightByTheWords(e api.Entry) api.Errno {
	linked := e.Kind == api.Link || e.Kind == api.Hard
	_, _, parted := partedByTheWords(e.Name)
	if !slices.Contains([]api.Kind{api.File, api.Dir, api.Link, api.Hard}, e.Kind) || e.Mode < 0 || e.Mode > 4095 {
		return api.ErrRange
	}
	if len(e.Name) < 1 || len(e.Name) > 255 || strings.Contains(e.Name, "\x00") || !parted {
		return api.ErrName
	}
	if linked && (len(e.Link) < 1 || len(e.Link) > 100 || strings.Contains(e.Link, "\x00")) || !linked && e.Link != "" {
		return api.ErrForm
	}
	if e.Kind != api.File && len(e.Data) > 0 {
		return api.ErrForm
	}
	if len(e.Data) > 70656 {
		return api.ErrLong
	}
	return api.OK
}

// wantRight: Right's answer; and Print's, which has the same error, also behind right entries.
func wantRight(t *testing.T, what string, e api.Entry, want api.Errno) {
	t.Helper()
	wantError(t, what, Right(e), want)
	if want == api.OK {
		return
	}
	for _, l := range [][]api.Entry{{e}, {rights()[0], e}, {rights()[1], e, {}}} {
		if b, got := Print(l...); len(b) != 0 || got != want {
			t.Errorf("%s: Print: %d bytes, error %d, want %d", what, len(b), got, want)
		}
	}
}

// wantPart: a name can be parted, and a header has it so.
func wantPart(t *testing.T, prefix, name string) {
	t.Helper()
	whole := name
	if prefix != "" {
		whole = prefix + "/" + name
	}
	e := api.Entry{Name: whole, Kind: api.Dir, Mode: 493}
	wantRight(t, whole, e, api.OK)
	b, err := Print(e)
	if err != api.OK || string(b[:512]) != string(headerOf(prefix, name, e)) {
		t.Errorf("%q: error %d, or it is parted in another way", whole, err)
	}
	wantPrinted(t, e)
}

func wantNoName(t *testing.T, name string) {
	t.Helper()
	for _, k := range []api.Kind{api.File, api.Dir} {
		wantRight(t, name, api.Entry{Name: name, Kind: k}, api.ErrName)
	}
}

// P12.1: names by their length, and where they are parted
func TestParted(t *testing.T) {
	for _, n := range []int{1, 2, 99, 100} {
		wantPart(t, "", many(n))
		wantPart(t, "", strings.Repeat("/", n))
		wantPart(t, many(100), many(n))
		wantPart(t, many(154), many(n))
	}
	wantPart(t, "", many(50)+"/"+many(49))
	wantPart(t, "", many(99)+"/")
	wantPart(t, "", "/"+many(99))
	wantPart(t, "n", many(99))
	wantPart(t, "n", many(100))
	wantPart(t, "/", many(100))
	wantPart(t, many(155), many(1))
	wantPart(t, many(155), many(99))
	for _, c := range []struct{ prefix, name string }{
		{"a/b/" + many(100), "n"},             // at the last /
		{"a/" + many(100), "b"},               // the first one leaves too long a name
		{"ab", many(99) + "/"},                // the last one leaves no name
		{many(100), "/"},                      // the last of two that touch leaves none
		{many(99) + "/", "n"},                 // of two that touch the last one
		{many(155), "a/" + many(90)},          // the last one leaves too long a prefix
		{many(155), "/" + many(90)},           // the same, by one byte
		{"a/" + many(153), "b/c/" + many(90)}, // in the midst of several
		{"/" + many(99), "n"},                 // the first one leaves no prefix
		{strings.Repeat("/", 155), strings.Repeat("/", 99)},
		{strings.Repeat("a/", 77) + "a", strings.Repeat("a/", 49)},
	} {
		wantPart(t, c.prefix, c.name)
	}
}

// P12.1: names that can't be
func TestNoNames(t *testing.T) {
	for _, n := range []int{0, 101, 102, 155, 156, 255, 256, 257, 1 << 16} {
		wantNoName(t, many(n))
	}
	for _, s := range []string{"\x00", "a\x00", "\x00a", many(99) + "\x00", many(100) + "/\x00", "\x00/" + many(100), many(120) + "/" + many(50) + "\x00"} {
		wantNoName(t, s)
	}
	for _, s := range []string{
		"/" + many(100),             // no prefix
		many(100) + "/",             // no name
		many(155) + "/",             // no name
		"/" + many(100) + "/",       // neither
		many(156) + "/n",            // a prefix of 156 bytes
		many(156) + "/" + many(98),  // the same
		"n/" + many(101),            // a name of 101 bytes
		many(153) + "/" + many(101), // the same
		"a/" + many(160) + "/b",     // the one too early, the other one too late
		many(155) + "/" + many(100), // 256 bytes
		many(154) + "/" + many(101), // 256 bytes
		strings.Repeat("a/", 128),   // 256 bytes
		strings.Repeat("/", 256),    // 256 bytes
		strings.Repeat("\x00", 100), // all 0
	} {
		wantNoName(t, s)
	}
}

// P12.1: kinds and modes
func TestKindsAndModes(t *testing.T) {
	for _, k := range []api.Kind{math.MinInt, -256, -1, api.NoKind, 5, 6, 48, 50, 256 + api.Kind(api.File), math.MaxInt} {
		wantRight(t, "no kind", api.Entry{Name: "a", Kind: k}, api.ErrRange)
		wantRight(t, "no kind", api.Entry{Name: "a", Kind: k, Link: "a"}, api.ErrRange)
	}
	for _, e := range rights() {
		for _, m := range []int{0, 1, 511, 2048, 4094, 4095} {
			e.Mode = m
			wantRight(t, "a mode", e, api.OK)
			wantPrinted(t, e)
		}
		for _, m := range []int{math.MinInt, -4096, -1, 4096, 4097, 8192, 1 << 16, 1 << 32, math.MaxInt} {
			e.Mode = m
			wantRight(t, "no mode", e, api.ErrRange)
		}
	}
}

// P12.1: links where they must be, and where none may be
func TestLinks(t *testing.T) {
	for _, k := range []api.Kind{api.Link, api.Hard} {
		for _, n := range []int{1, 2, 99, 100} {
			e := api.Entry{Name: "a", Kind: k, Link: strings.Repeat("/", n)}
			wantRight(t, "a link", e, api.OK)
			wantPrinted(t, e)
		}
		for _, s := range []string{"", many(101), many(50) + "/" + many(50), many(256), "\x00", "a\x00", "\x00a", many(99) + "\x00"} {
			wantRight(t, "no link", api.Entry{Name: "a", Kind: k, Link: s}, api.ErrForm)
		}
		wantRight(t, "data", api.Entry{Name: "a", Kind: k, Link: "a", Data: []byte{0}}, api.ErrForm)
		wantRight(t, "much data", api.Entry{Name: "a", Kind: k, Link: "a", Data: data(api.MaxFile + 1)}, api.ErrForm)
	}
	for _, k := range []api.Kind{api.File, api.Dir} {
		for _, s := range []string{"a", "\x00", many(100), many(101)} {
			wantRight(t, "a link of others", api.Entry{Name: "a", Kind: k, Link: s}, api.ErrForm)
		}
	}
	wantRight(t, "data", api.Entry{Name: "a", Kind: api.Dir, Data: []byte{0}}, api.ErrForm)
	wantRight(t, "much data", api.Entry{Name: "a", Kind: api.Dir, Data: data(api.MaxFile + 1)}, api.ErrForm)
	wantRight(t, "empty data", api.Entry{Name: "a", Kind: api.Dir, Data: []byte{}}, api.OK)
}

// P12.1: data of files
func TestMostData(t *testing.T) {
	wantError(t, "MaxFile bytes", Right(file("a", 420, data(api.MaxFile))), api.OK)
	wantError(t, "one less", Right(file("a", 420, data(api.MaxFile-1))), api.OK)
	wantRight(t, "one more", file("a", 420, data(api.MaxFile+1)), api.ErrLong)
	wantRight(t, "much more", file("a", 420, make([]byte, 1<<20)), api.ErrLong)
}

// P12.1, P2: several things wrong in one entry: each together with each other one
func TestSeveralWrong(t *testing.T) {
	kinds := []api.Kind{-1, api.NoKind, api.File, api.Dir, api.Link, api.Hard, 5}
	modes := []int{-1, 0, 4095, 4096}
	names := []string{"", "a", "a\x00", many(100), many(101), many(256), "a/" + many(100), "a/" + many(101)}
	links := []string{"", "a", "a\x00", many(100), many(101)}
	amounts := []int{0, 1, api.MaxFile, api.MaxFile + 1}
	seen := map[api.Errno]int{}
	for _, k := range kinds {
		for _, m := range modes {
			for _, name := range names {
				for _, link := range links {
					for _, n := range amounts {
						e := api.Entry{Name: name, Kind: k, Mode: m, Link: link, Data: noughts(n)}
						want := rightByTheWords(e)
						seen[want]++
						if got := Right(e); got != want {
							t.Errorf("kind %d, mode %d, name of %d bytes, link of %d, data of %d: error %d, want %d", k, m, len(name), len(link), n, got, want)
						}
						if _, got := Print(e); want != api.OK && got != want {
							t.Errorf("Print: error %d, want %d", got, want)
						}
					}
				}
			}
		}
	}
	if len(seen) != 5 {
		t.Errorf("errors: %v", seen)
	}
}

// noughts is a piece of one room, which no call changes.
func noughts(n int) []byte {
	return room[:n]
}

var room = make([]byte, api.MaxFile+1)

// P12.1: names by a rule, with many /
func TestNamesByARule(t *testing.T) {
	next := row(3)
	parted, not := 0, 0
	for range 20000 {
		b := []byte(many(80 + next(190)))
		for range next(4) {
			b[next(len(b))] = '/'
		}
		e := api.Entry{Name: string(b), Kind: api.Dir, Mode: 493}
		want := rightByTheWords(e)
		if got := Right(e); got != want {
			t.Errorf("%q: error %d, want %d", b, got, want)
		}
		if want == api.OK {
			parted++
			wantPrinted(t, e)
		} else {
			not++
		}
	}
	if parted < 2000 || not < 2000 {
		t.Errorf("%d names that can be parted, %d that can't", parted, not)
	}
}
