package tarfmt

import (
	"fmt"
	"regexp"
	"slices"
	"strconv"
	"strings"
	"testing"

	"dunnage/api"
)

// latin is bytes as a text of one rune each, as regexp needs it.
func latin(b []byte) string {
	r := make([]rune, len(b))
	for i, c := range b {
		r[i] = rune(c)
	}
	return string(r)
}

var (
	numberForm = regexp.MustCompile(`^[0-7]*[\x00 ]$`)
	textForm   = regexp.MustCompile(`^[^\x00]*\x00*$`)
	sumForm    = regexp.MustCompile(`^([0-7]{7}[\x00 ]|[0-7]{6}\x00 )$`)
	endForm    = regexp.MustCompile(`^\x00*$`)
)

func value(b []byte) int {
	n, _ := strconv.ParseInt(strings.TrimRight(string(b), "\x00 "), 8, 64)
	return int(n)
}

// headerByTheWords is what a header tells by the chapter's words, and the size of its data; false, if it is none.
func headerByTheWords(h []byte) (e api.Entry, size int, ok bool) {
	for _, f := range numberFields() {
		if !numberForm.MatchString(latin(h[f.from : f.from+f.width])) {
			return e, 0, false
		}
	}
	for _, f := range textFields() {
		if !textForm.MatchString(latin(h[f.from : f.from+f.width])) {
			return e, 0, false
		}
	}
	if !sumForm.MatchString(latin(h[148:156])) || string(h[257:265]) != "ustar\x0000" || !endForm.MatchString(latin(h[500:])) {
		return e, 0, false
	}
	if value(h[148:156]) != value(summed(slices.Clone(h))[148:156]) {
		return e, 0, false
	}
	text := func(from, to int) string { return strings.TrimRight(string(h[from:to]), "\x00") }
	e = api.Entry{Name: text(0, 100), Mode: value(h[100:108]), Link: text(157, 257)}
	if prefix := text(345, 500); len(prefix) > 0 {
		e.Name = prefix + "/" + e.Name
	}
	e.Kind = map[byte]api.Kind{0: api.File, 48: api.File, 49: api.Hard, 50: api.Link, 53: api.Dir}[h[156]]
	return e, value(h[124:136]), true
}

// parseByTheWords is a second Parse.
func parseByTheWords(b []byte) ([]api.Entry, api.Errno, int) {
	if len(b) > 60000 {
		return nil, api.ErrLong, 0
	}
	var l []api.Entry
	at := 0
	for at+512 <= len(b) && !endForm.MatchString(latin(b[at:at+512])) {
		e, size, ok := headerByTheWords(b[at : at+512])
		next := at + 512 + size
		for next%512 != 0 {
			next++
		}
		if !ok || next > len(b) || !endForm.MatchString(latin(b[at+512+size:next])) {
			return nil, api.ErrForm, at
		}
		e.Data = b[at+512 : at+512+size]
		if rightByTheWords(e) != api.OK {
			return nil, api.ErrForm, at
		}
		l = append(l, e)
		at = next
	}
	if len(b) < at+1024 || len(b)%512 != 0 || !endForm.MatchString(latin(b[at:])) {
		return nil, api.ErrForm, at
	}
	return l, api.OK, 0
}

// wantAsTheWords: Parse tells what the second one tells; and what is parsed is printed, and parsed again.
func wantAsTheWords(t *testing.T, b []byte) api.Errno {
	t.Helper()
	want, err, place := parseByTheWords(b)
	l, e, at := Parse(b)
	if !same(l, want) || e != err || at != place {
		t.Errorf("Parse: %d entries, error %d, place %d, want %d, %d, %d", len(l), e, at, len(want), err, place)
	}
	if e == api.OK {
		again, e := Print(l...)
		wantError(t, "Print", e, api.OK)
		wantParsed(t, again, l...)
	}
	return e
}

// entryByARule is a right entry, or nearly so.
func entryByARule(next func(int) int) api.Entry {
	e := api.Entry{Name: many(1 + next(12)), Kind: api.Kind(1 + next(4)), Mode: next(4096)}
	if next(3) == 0 {
		e.Name = many(90+next(30)) + "/" + many(next(110))
	}
	if e.Kind >= api.Link {
		e.Link = many(1 + next(100))
	}
	if e.Kind == api.File {
		e.Data = data(next(3) * next(700))
	}
	return e
}

// somewhere is a byte's place: in one of the fields more often than their widths would have it.
func somewhere(next func(int) int, b []byte) int {
	fields := append(numberFields(), textFields()...)
	fields = append(fields, field{"sum", 148, 8}, field{"type", 156, 1}, field{"sign", 257, 8}, field{"rest", 500, 12})
	f := fields[next(len(fields))]
	return 512*next(len(b)/512) + f.from + next(min(f.width, 12))
}

// P12.2 to P12.5: tars by a rule, changed here and there, their sums mended or not, held against a second Parse
func TestAgainstTheWords(t *testing.T) {
	seen := map[api.Errno]int{}
	next := row(4)
	for range 15000 {
		var l []api.Entry
		for range next(4) {
			if e := entryByARule(next); rightByTheWords(e) == api.OK {
				l = append(l, e)
			}
		}
		b := append(tarOf(l...), make([]byte, 512*next(3))...)
		for range next(3) {
			at := somewhere(next, b)
			b[at] = []byte{0, ' ', '0', '1', '2', '5', '7', '8', 'x', 0xff}[next(10)]
			if h := b[at/512*512:][:512]; next(4) > 0 && string(h[257:262]) == "ustar" {
				copy(h[148:], fmt.Sprintf([]string{"%07o\x00", "%07o ", "%06o\x00 "}[next(3)], Sum(h)))
			}
		}
		if next(8) == 0 {
			b = b[:next(len(b)+1)]
		}
		seen[wantAsTheWords(t, b)]++
		if t.Failed() {
			t.Fatalf("%q", b)
		}
	}
	if seen[api.OK] < 3000 || seen[api.ErrForm] < 3000 {
		t.Errorf("errors: %v", seen)
	}
}
