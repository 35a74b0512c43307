package tarfmt

import (
	"bytes"
	"fmt"
	"strings"
	"testing"

	"dunnage/api"
)

type field struct {
	what        string
	from, width int
}

func numberFields() []field {
	return []field{{"mode", 100, 8}, {"user", 108, 8}, {"group", 116, 8}, {"size", 124, 12}, {"time", 136, 12}, {"major", 329, 8}, {"minor", 337, 8}}
}

func textFields() []field {
	return []field{{"name", 0, 100}, {"link", 157, 100}, {"user's name", 265, 32}, {"group's name", 297, 32}, {"prefix", 345, 155}}
}

// changed is a tar of an entry ahead, one whose header is changed and has the sum of that, and one behind.
func changed(e api.Entry, change func(h []byte)) []byte {
	b := tarOf(rights()[1], e, rights()[2])
	change(b[512:1024])
	summed(b[512:1024])
	return b
}

// wantOther: with that change the tar is as it was, but for the entry.
func wantOther(t *testing.T, what string, e, want api.Entry, change func(h []byte)) {
	t.Helper()
	b := changed(e, change)
	wantParsed(t, b, rights()[1], want, rights()[2])
	if t.Failed() {
		t.Fatal(what)
	}
}

func wantNoHeader(t *testing.T, what string, e api.Entry, change func(h []byte)) {
	t.Helper()
	wantNone(t, what, changed(e, change), 512)
}

// each is one entry of each kind.
func each() []api.Entry {
	return rights()[:4]
}

// P12.2: a number that ends with a blank, or has no end
func TestEndsOfNumbers(t *testing.T) {
	for _, e := range each() {
		for _, f := range numberFields() {
			for c := range 256 {
				end := func(h []byte) { h[f.from+f.width-1] = byte(c) }
				if c == 0 || c == 32 {
					wantOther(t, f.what, e, e, end)
					continue
				}
				wantNoHeader(t, f.what, e, end)
			}
		}
	}
}

// P12.2: a number with a sign that is no digit, at each place
func TestSignsOfNumbers(t *testing.T) {
	for _, e := range each() {
		for _, f := range numberFields() {
			for at := f.from; at < f.from+f.width-1; at++ {
				for _, c := range "\x00\x01 +-./89:Aax~\u0080\u00b0\u00ff" {
					wantNoHeader(t, f.what, e, func(h []byte) { h[at] = byte(c) })
				}
			}
			for _, c := range []byte{0, 32, 0x80, 0xff} {
				wantNoHeader(t, f.what+" in one byte", e, func(h []byte) {
					copy(h[f.from:f.from+f.width], bytes.Repeat([]byte{c}, f.width))
				})
			}
		}
	}
}

// P12.2: what users, groups, times and devices are plays no part.
func TestOtherNumbers(t *testing.T) {
	for _, e := range each() {
		for _, f := range numberFields() {
			if f.what == "mode" || f.what == "size" {
				continue
			}
			for _, digits := range []string{"0000000", "0000001", "7777777", "1234567"} {
				wantOther(t, f.what, e, e, func(h []byte) { copy(h[f.from:], digits) })
			}
			wantOther(t, f.what, e, e, func(h []byte) { copy(h[f.from:], strings.Repeat("7", f.width-1)) })
		}
	}
}

// P12.2: modes
func TestModes(t *testing.T) {
	for _, e := range each() {
		for _, m := range []int{0, 1, 7, 8, 420, 4095, 4096, 4097, 8191, 1 << 15, 1<<21 - 1} {
			want := e
			want.Mode = m
			mode := func(h []byte) { copy(h[100:], fmt.Sprintf("%07o", m)) }
			if m <= 4095 {
				wantOther(t, "mode", e, want, mode)
				continue
			}
			wantNoHeader(t, "mode above 4095", e, mode)
		}
	}
}

// P12.2: a text with bytes behind its first 0
func TestTexts(t *testing.T) {
	for _, e := range each() {
		for _, f := range textFields() {
			for zero := range f.width {
				text := append(bytes.Repeat([]byte{'x'}, zero), make([]byte, f.width-zero)...)
				for at := zero + 1; at < f.width; at += 1 + (at-zero)/3 {
					for _, c := range []byte{1, ' ', 'x', 0xff} {
						wantNoHeader(t, f.what, e, func(h []byte) {
							copy(h[f.from:], text)
							h[f.from+at] = c
						})
					}
				}
			}
		}
	}
}

// P12.2: the names of users and groups play no part, whatever they are, without a 0 behind them too.
func TestOtherTexts(t *testing.T) {
	for _, e := range each() {
		for _, s := range []string{"", "u", "root", " ", "\xff", many(31), many(32)} {
			wantOther(t, "user's name", e, e, func(h []byte) { copy(h[265:297], s) })
			wantOther(t, "group's name", e, e, func(h []byte) { copy(h[297:329], s) })
		}
	}
}

// P12.2: names as they are put together
func TestNamesOfHeaders(t *testing.T) {
	for _, e := range each() {
		for _, c := range []struct{ prefix, name string }{
			{"", "a"}, {"a", "b"}, {"a/", "b"}, {"/", "/"}, {"a/b", "c/"}, {"a", ""}, {many(99), ""}, {many(50), many(49)},
			{"a", many(100)}, {many(155), many(99)}, {many(154), many(100)}, {many(155), "n"}, {"", many(100)},
			{"a/" + many(100), ""}, {many(50) + "/" + many(60), many(30)},
			{"", ""}, {many(100), ""}, {many(155), ""}, {many(155), many(100)}, {"/" + many(100), ""}, {many(150) + "/", ""},
		} {
			put := func(h []byte) {
				copy(h[:100], append([]byte(c.name), make([]byte, 100)...))
				copy(h[345:500], append([]byte(c.prefix), make([]byte, 155)...))
			}
			want := e
			want.Name = c.name
			if c.prefix != "" {
				want.Name = c.prefix + "/" + c.name
			}
			if rightByTheWords(want) == api.OK {
				wantOther(t, "name", e, want, put)
				continue
			}
			wantNoHeader(t, "name", e, put)
		}
	}
}

// P12.2: links of headers
func TestLinksOfHeaders(t *testing.T) {
	for _, e := range each() {
		for _, s := range []string{"", "l", "/", "\xff", many(99), many(100)} {
			want := e
			want.Link = s
			put := func(h []byte) { copy(h[157:257], append([]byte(s), make([]byte, 100)...)) }
			if rightByTheWords(want) == api.OK {
				wantOther(t, "link", e, want, put)
				continue
			}
			wantNoHeader(t, "link", e, put)
		}
	}
}

// P12.2: each byte as a type
func TestTypes(t *testing.T) {
	kinds := map[int]api.Kind{0: api.File, 48: api.File, 49: api.Hard, 50: api.Link, 53: api.Dir}
	for c := range 256 {
		for _, link := range []string{"", "l"} {
			e := api.Entry{Name: "n", Kind: api.Dir, Mode: 420, Link: link}
			want := e
			want.Kind = kinds[c]
			put := func(h []byte) { h[156] = byte(c) }
			if rightByTheWords(want) == api.OK {
				wantOther(t, "type", e, want, put)
				continue
			}
			wantNoHeader(t, "type", e, put)
		}
	}
	e := file("n", 420, data(700))
	wantOther(t, "type 0, and data", e, e, func(h []byte) { h[156] = 0 })
}

// P12.2: the sign, and the 12 noughts
func TestSign(t *testing.T) {
	for _, e := range each() {
		for at := 257; at < 265; at++ {
			for c := range 256 {
				if b := tarOf(e); b[at] != byte(c) {
					wantNoHeader(t, "sign", e, func(h []byte) { h[at] = byte(c) })
				}
			}
		}
		for _, s := range []string{"ustar  \x00", "ustar\x00\x00\x00", "\x00\x00\x00\x00\x00\x00\x00\x00", "USTAR\x0000", "ustar\x0001"} {
			wantNoHeader(t, "sign", e, func(h []byte) { copy(h[257:265], s) })
		}
		for at := 500; at < 512; at++ {
			for _, c := range []byte{1, ' ', '0', 0xff} {
				wantNoHeader(t, "the 12 noughts", e, func(h []byte) { h[at] = c })
			}
		}
	}
}

// resummed is a tar whose first header has that text as its sum.
func resummed(e api.Entry, format string, more int) []byte {
	b := tarOf(e)
	copy(b[148:156], fmt.Sprintf(format, Sum(b[:512])+more))
	return b
}

// P12.2: how a sum may be written
func TestSums(t *testing.T) {
	for _, e := range rights() {
		for _, format := range []string{"%07o\x00", "%07o ", "%06o\x00 "} {
			wantParsed(t, resummed(e, format, 0), e)
			for _, more := range []int{-4096, -256, -1, 1, 2, 255, 256, 1 << 15, 1<<18 - 1 - 130560} {
				if more != 0 && more+Sum(tarOf(e)[:512]) >= 0 {
					wantNone(t, "a wrong sum", resummed(e, format, more), 0)
				}
			}
		}
		for _, format := range []string{
			"%08o", "%07o\x01", "%07o0", "%06o \x00", "%06o\x00\x00", "%06o  ", " %06o\x00", " %06o ", "\x00%06o\x00", " %05o\x00 ", "%7o\x00",
			"%05o\x00\x00 ", "%05o\x00\x00\x00", "%06o\x000", "%06o\x00\xff", "%06o0\x01", "%06x\x00 ", "%06d\x00 ", "-%06o\x00", "+%06o\x00",
		} {
			wantNone(t, "a sum in another way", resummed(e, format, 0), 0)
		}
	}
}

// P12.2: the sum of all bytes above 127 (which some take as below 0)
func TestSumOfHighBytes(t *testing.T) {
	e := file(strings.Repeat("\xff", 100), 420, nil)
	wantPrinted(t, e)
	b := tarOf(e)
	copy(b[148:], fmt.Sprintf("%07o", Sum(b[:512])-100*256))
	wantNone(t, "bytes below 0", b, 0)
}

// P12.5: each byte of each header changed, the sum as it was
func TestEachByteOfAHeader(t *testing.T) {
	l := []api.Entry{rights()[0], rights()[1], rights()[15], rights()[16]}
	places := []int{0, 1024, 1536, 2048, 2560}
	b := tarOf(l...)
	for _, place := range places {
		for at := place; at < place+512; at++ {
			was := b[at]
			for c := range 256 {
				b[at] = byte(c)
				if byte(c) == was || at == place+155 && c == 32 && place < 2560 {
					wantParsed(t, b, l...)
					continue
				}
				wantNone(t, "one byte changed", b, place)
			}
			b[at] = was
		}
	}
}
