package tarfmt

import (
	"bytes"
	"fmt"
	"slices"
	"strings"
	"testing"

	"dunnage/api"
)

func wantError(t *testing.T, what string, got, want api.Errno) {
	t.Helper()
	if got != want {
		t.Errorf("%s: error %d, want %d", what, got, want)
	}
}

// row is numbers by a rule, each below a bound; others for each seed.
func row(seed uint32) func(below int) int {
	x := seed*2654435761 + 12345
	return func(below int) int {
		x = x*1664525 + 1013904223
		return int(x>>8) % below
	}
}

// data is so many bytes, each kind of byte among them, if there are enough, the last one not 0.
func data(n int) []byte {
	b := make([]byte, n)
	for i := range b {
		b[i] = byte(7 * (n - i))
	}
	return b
}

// many is a text of so many bytes.
func many(n int) string {
	return strings.Repeat("n", n)
}

func same(a, b []api.Entry) bool {
	return slices.EqualFunc(a, b, func(x, y api.Entry) bool {
		return x.Name == y.Name && x.Kind == y.Kind && x.Mode == y.Mode && x.Link == y.Link && bytes.Equal(x.Data, y.Data)
	})
}

func file(name string, mode int, b []byte) api.Entry {
	return api.Entry{Name: name, Kind: api.File, Mode: mode, Data: b}
}

// rights is right entries, those at the edges among them.
func rights() []api.Entry {
	return []api.Entry{
		file("a", 420, []byte("hi")),
		{Name: "d/", Kind: api.Dir, Mode: 493},
		{Name: "l", Kind: api.Link, Mode: 511, Link: "a"},
		{Name: "h", Kind: api.Hard, Mode: 420, Link: "a"},
		file("none", 0, nil),
		file("one", 4095, data(1)),
		file("511", 1, data(511)),
		file("512", 8, data(512)),
		file("513", 2048, data(513)),
		file("noughts", 64, make([]byte, 700)),
		file("/", 64, data(1024)),
		file("\xff\x01 \xe2\x82", 420, data(1025)),
		file(many(100), 420, data(3)),
		{Name: "long/" + many(100), Kind: api.Dir, Mode: 1},
		{Name: many(100) + "/n", Kind: api.Dir},
		{Name: many(155) + "/" + many(99), Kind: api.Link, Mode: 4095, Link: many(100)},
		{Name: many(154) + "/" + many(100), Kind: api.Hard, Mode: 4095, Link: "/\xff\x01 "},
	}
}

// laid is a header by the chapter's words: its fields as texts, each filled with noughts, and the sum of them.
func laid(fields ...string) []byte {
	widths := []int{100, 8, 8, 8, 12, 12, 8, 1, 100, 8, 32, 32, 8, 8, 155, 12}
	var b []byte
	for i, w := range widths {
		b = append(b, fields[i]...)
		b = append(b, make([]byte, w-len(fields[i]))...)
	}
	return b
}

// summed is a header with its sum.
func summed(b []byte) []byte {
	copy(b[148:], "        ")
	n := 0
	for _, c := range b {
		n += int(c)
	}
	copy(b[148:], fmt.Sprintf("%07o\x00", n))
	return b
}

// headerOf is what Print must write of an entry whose name is parted already.
func headerOf(prefix, name string, e api.Entry) []byte {
	kind := map[api.Kind]string{api.File: "0", api.Hard: "1", api.Link: "2", api.Dir: "5"}[e.Kind]
	size := fmt.Sprintf("%011o\x00", len(e.Data))
	mode := fmt.Sprintf("%07o\x00", e.Mode)
	const nought, longNought = "0000000\x00", "00000000000\x00"
	return summed(laid(name, mode, nought, nought, size, longNought, "", kind, e.Link, "ustar\x0000", "", "", nought, nought, prefix, ""))
}

// partedByTheWords tries each / of a name.
func partedByTheWords(name string) (prefix, rest string, ok bool) {
	if len(name) <= 100 {
		return "", name, true
	}
	for at := range len(name) {
		if name[at] == '/' && at >= 1 && at <= 155 && len(name[at+1:]) >= 1 && len(name[at+1:]) <= 100 {
			prefix, rest, ok = name[:at], name[at+1:], true
		}
	}
	return prefix, rest, ok
}

// tarOf is the tar of right entries, by the chapter's words.
func tarOf(l ...api.Entry) []byte {
	var b []byte
	for _, e := range l {
		prefix, name, _ := partedByTheWords(e.Name)
		b = append(b, headerOf(prefix, name, e)...)
		b = append(b, e.Data...)
		for len(b)%512 != 0 {
			b = append(b, 0)
		}
	}
	return append(b, make([]byte, 1024)...)
}

func wantPrinted(t *testing.T, l ...api.Entry) {
	t.Helper()
	want := tarOf(l...)
	if b, e := Print(l...); !bytes.Equal(b, want) || e != api.OK {
		t.Errorf("Print of %d entries: error %d, %d bytes, want %d (or they are others)", len(l), e, len(b), len(want))
	}
	wantParsed(t, want, l...)
}

func wantParsed(t *testing.T, b []byte, want ...api.Entry) {
	t.Helper()
	if l, e, at := Parse(b); !same(l, want) || e != api.OK || at != 0 {
		t.Errorf("Parse of %d bytes: %d entries, error %d, place %d, want %d entries (or they are others)", len(b), len(l), e, at, len(want))
	}
}

// wantNone: the header at that place is none.
func wantNone(t *testing.T, what string, b []byte, want int) {
	t.Helper()
	if l, e, at := Parse(b); len(l) != 0 || e != api.ErrForm || at != want {
		t.Errorf("%s: Parse: %d entries, error %d, place %d, want none at %d", what, len(l), e, at, want)
	}
}

// P12.1, the chapter's example
func TestExample(t *testing.T) {
	if b, e := Print(); !bytes.Equal(b, make([]byte, 1024)) || e != api.OK {
		t.Errorf("Print of no entries: %x, error %d", b, e)
	}
	wantPrinted(t)
}

// P12.1: a header byte by byte
func TestHeader(t *testing.T) {
	b, e := Print(api.Entry{Name: "name", Kind: api.Link, Mode: 493, Link: "to"})
	wantError(t, "Print", e, api.OK)
	want := make([]byte, 3*512)
	copy(want, "name")
	copy(want[100:], "0000755\x000000000\x000000000\x0000000000000\x0000000000000\x00")
	copy(want[148:], "0010406\x002to")
	copy(want[257:], "ustar\x0000")
	copy(want[329:], "0000000\x000000000\x00")
	if !bytes.Equal(b, want) {
		t.Errorf("Print: %q, want %q", bytes.Trim(b, "\x00"), bytes.Trim(want, "\x00"))
	}
}

// P12.1, P12.2, P12.3, E3
func TestThereAndBack(t *testing.T) {
	all := rights()
	for i, e := range all {
		wantError(t, e.Name, Right(e), api.OK)
		wantPrinted(t, e)
		wantPrinted(t, e, e, all[0])
		wantPrinted(t, all[:i]...)
		wantPrinted(t, all[i:]...)
	}
	slices.Reverse(all)
	wantPrinted(t, all...)
}

// P12.1, P12.3: data of each length around whole headers
func TestData(t *testing.T) {
	for n := range 1600 {
		wantPrinted(t, file("a", 420, data(n)), file("b", 420, make([]byte, n)))
	}
}

// P12.1: Sum
func TestSum(t *testing.T) {
	for n := range 1300 {
		b := bytes.Repeat([]byte{1}, n)
		want := 0
		if n == 512 {
			want = 504 + 8*32
		}
		if got := Sum(b); got != want {
			t.Errorf("Sum of %d bytes: %d, want %d", n, got, want)
		}
	}
	if Sum(nil) != 0 || Sum(make([]byte, 512)) != 256 || Sum(bytes.Repeat([]byte{255}, 512)) != 504*255+256 {
		t.Error("Sum of nil, of noughts, of the greatest bytes")
	}
}

// P12.1: each byte of a header counts once, and those of the sum are blanks.
func TestSumOfEachByte(t *testing.T) {
	for at := range 512 {
		for c := range 256 {
			b := make([]byte, 512)
			b[at] = byte(c)
			want := 256 + c
			if at >= 148 && at < 156 {
				want = 256
			}
			if got := Sum(b); got != want {
				t.Errorf("Sum with %d at %d: %d, want %d", c, at, got, want)
			}
		}
	}
}
