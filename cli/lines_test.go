package cli

import (
	"strconv"
	"strings"
	"testing"

	"dunnage/api"
)

// wantPut: a line puts these bytes, and tells their digest; they are released again.
func wantPut(t *testing.T, s *Shell, line string, b []byte) {
	t.Helper()
	for _, x := range [][2]string{{line, "ok " + digestOf(b)}, {"get " + digestOf(b), "ok " + Hex(b)}, {"release " + digestOf(b), "ok"}} {
		if got := s.Do(x[0]); got != x[1] {
			t.Errorf("%s: %s: %s, want %s", brief(line), brief(x[0]), brief(got), brief(x[1]))
		}
	}
}

// P16.1 (ErrWord): lines of no word, with a blank too many, with words that are no command, with too few and too many words
func TestLinesThatAreNoCommand(t *testing.T) {
	s, l, m := planted(t, 400)
	lines := []string{"", " ", "  ", "\n", "\t", "-", "x", "ok", "no", "PUT 61", "Put 61", "put\t61", "puts 61", "tags\n", "\ntags", "tags\x00", "t", "tagged t", "é", "\xff"}
	right := []string{
		"put 61", "put -", "manifest os arm", "manifest os arm " + l, "layer", "layer f:a:420:-", "get " + l, "count " + l, "release " + m, "tag u " + m,
		"untag t", "tags", "pin q t", "unpin p", "pins", "ls /", "cat /p/a", "tar p", "blobs", "audit", "free",
	}
	for _, line := range right {
		lines = append(lines, " "+line, line+" ", "  "+line, line+"  ")
		if strings.Contains(line, " ") {
			lines = append(lines, strings.Replace(line, " ", "  ", 1), strings.Replace(line, " ", "\t", 1), strings.ReplaceAll(line, " ", ""))
		}
		if words := strings.Split(line, " "); words[0] != "layer" && words[0] != "manifest" {
			lines = append(lines, line+" x", line+" "+m, line+" -")
			if len(words) > 1 {
				lines = append(lines, strings.Join(words[:len(words)-1], " "), words[0])
			}
		}
	}
	lines = append(lines, "manifest", "manifest os", "manifest os arm x", "manifest os arm "+l+" x", "manifest os arm x "+l, "layer x", "layer f:a:420:- x", "tag u", "tag "+m+" u", "pin q")
	lines = append(lines, // just as many words, if an empty one were one
		"put ", "manifest  arm", "manifest os ", "manifest  ", "manifest os  "+l, "manifest os arm ", "layer ", "get ", "tag  "+m, "tag u ", "untag ",
		"pin  t", "pin q ", "pin  ", "unpin ", "ls ", "cat ", "tar ", " tags")
	for _, line := range lines {
		wantNo(t, s, line, api.ErrWord)
	}
}

// P16.1 (ErrLong): lines of MaxLine bytes, and one more; it goes ahead of what is no command.
func TestLineLengths(t *testing.T) {
	s := made(t, 400)
	most := strings.Repeat("61", (api.MaxLine-4)/2)
	line := "put " + most
	if len(line) != api.MaxLine {
		t.Fatal("not as long as can be")
	}
	want(t, s, line, "ok "+digestOf([]byte(strings.Repeat("a", len(most)/2))))
	for _, more := range []string{"6", "61", " ", "\n"} {
		wantNo(t, s, line+more, api.ErrLong)
	}
	wantNo(t, s, strings.Repeat("x", api.MaxLine), api.ErrWord)
	wantNo(t, s, strings.Repeat(" ", api.MaxLine), api.ErrWord)
	wantNo(t, s, strings.Repeat("x", api.MaxLine+1), api.ErrLong)
	wantNo(t, s, strings.Repeat(" ", api.MaxLine+1), api.ErrLong)
	wantNo(t, s, "ls /"+strings.Repeat("x", api.MaxLine-4), api.ErrName)
	wantNo(t, s, "ls /"+strings.Repeat("x", api.MaxLine-3), api.ErrLong)
}

// Words of chapter 16: digits
func TestDigits(t *testing.T) {
	s := made(t, 400)
	for digits, b := range map[string]string{"-": "", "00": "\x00", "ff": "\xff", "0a1b": "\x0a\x1b", "616263": "abc"} {
		want(t, s, "put "+digits, "ok "+digestOf([]byte(b)))
		want(t, s, "get "+digestOf([]byte(b)), "ok "+digits)
		want(t, s, "layer f:a:420:"+digits, "ok "+digestOf(tarOf(t, api.Entry{Name: "a", Kind: api.File, Mode: 420, Data: []byte(b)})))
	}
	for _, digits := range []string{"6", "616", "6A", "A6", "FF", "0g", "--", "-61", "61-", "0x61", "6 1", "61 62", "+61", "6.1", "é", "\xff\xff"} {
		wantNo(t, s, "put "+digits, api.ErrWord)
		wantNo(t, s, "layer f:a:420:"+digits, api.ErrWord)
	}
}

// Words of chapter 16: a digest
func TestDigests(t *testing.T) {
	s, l, m := planted(t, 400)
	wrong := []string{
		l[:63], l + "0", l + l, l[:62], "", "-", strings.ToUpper(l), l[:63] + "g", "x" + l[1:], "0x" + l[:62], l[:32] + " " + l[32:], strings.Repeat("é", 32),
	}
	for _, h := range wrong {
		for _, line := range []string{"get " + h, "count " + h, "release " + h, "tag u " + h, "manifest os arm " + h, "manifest os arm " + l + " " + h} {
			wantNo(t, s, line, api.ErrWord)
		}
	}
	want(t, s, "get "+m, "ok "+Hex(imageOf("os", "arm", l)))
}

// Words of chapter 16: a number, and what tarfmt.Print says of a mode
func TestNumbers(t *testing.T) {
	s := made(t, 400)
	for _, mode := range []int{0, 1, 9, 10, 420, 493, 4095} {
		want(t, s, "layer d:a:"+strconv.Itoa(mode), "ok "+digestOf(tarOf(t, api.Entry{Name: "a", Kind: api.Dir, Mode: mode})))
	}
	for _, mode := range []string{"4096", "65536", "4294967296", "1099511627775", "1099511627776"} {
		wantNo(t, s, "layer d:a:"+mode, api.ErrRange)
		wantNo(t, s, "layer f:a:"+mode+":-", api.ErrRange)
	}
	for _, mode := range []string{
		"", "-", "00", "01", "007", "0420", "+1", "-1", "-0", "+0", "1.", "1.0", "1e3", "0x1", "0b1", "0o7", "1_0", "a", "6a", "٣", "1\n", "\x00", "1099511627777", "1099511627780",
		"2000000000000", "9223372036854775807", "9223372036854775808", "18446744073709551616", "18446744073709552036", strings.Repeat("9", 100), strings.Repeat("0", 100),
	} {
		wantNo(t, s, "layer d:a:"+mode, api.ErrWord)
		wantNo(t, s, "layer f:a:"+mode+":-", api.ErrWord)
		wantNo(t, s, "layer d:b:493 d:a:"+mode, api.ErrWord)
	}
}

// Words of chapter 16: entries of each kind, alone and with others
func TestEntries(t *testing.T) {
	s := made(t, 400)
	entries := map[string]api.Entry{
		"f:a:420:6869":   {Name: "a", Kind: api.File, Mode: 420, Data: []byte("hi")},
		"f:a/b//c:0:-":   {Name: "a/b//c", Kind: api.File},
		"f:../x:1:00":    {Name: "../x", Kind: api.File, Mode: 1, Data: []byte{0}},
		"d:b:493":        {Name: "b", Kind: api.Dir, Mode: 493},
		"d:b/:0":         {Name: "b/", Kind: api.Dir},
		"l:c:a":          {Name: "c", Kind: api.Link, Link: "a"},
		"l:c:../x/\xff":  {Name: "c", Kind: api.Link, Link: "../x/\xff"},
		"h:d:a":          {Name: "d", Kind: api.Hard, Link: "a"},
		"f:.wh.x:420:-":  {Name: ".wh.x", Kind: api.File, Mode: 420},
		"f:f:4095:66":    {Name: "f", Kind: api.File, Mode: 4095, Data: []byte("f")},
		"d:-:420":        {Name: "-", Kind: api.Dir, Mode: 420},
		"l:=:\n":         {Name: "=", Kind: api.Link, Link: "\n"},
		"h:l:h":          {Name: "l", Kind: api.Hard, Link: "h"},
		"f:420:420:4200": {Name: "420", Kind: api.File, Mode: 420, Data: []byte{0x42, 0}},
	}
	want(t, s, "layer", "ok "+digestOf(make([]byte, 1024)))
	for a, x := range entries {
		wantPut(t, s, "layer "+a, tarOf(t, x))
		for b, y := range entries {
			wantPut(t, s, "layer "+a+" "+b, tarOf(t, x, y))
		}
	}
}

// Words of chapter 16: entries with parts missing, too many, or empty
func TestEntriesThatAreNone(t *testing.T) {
	s := made(t, 400)
	for _, entry := range []string{
		"f", "d", "l", "h", ":", "::", ":::", "f:", "f::", "f:a", "f:a:", "f:a:420", "f:a:420:", "f:a::-", "f:a:420:-:", "f:a:420:-:x", "f:a:b:420:-", ":f:a:420:-",
		"d:", "d:a", "d:a:", "d:a:420:", "d:a:420:-", "d:a:b:420", "l:", "l:a", "l:a:b:", "l:a:b:c", "h:", "h:a", "h:a:b:", "h:a:b:c", "x:a:420", "x:a:420:-", ":a:420", ":a:420:-",
		"F:a:420:-", "D:a:420", "ff:a:420:-", "fd:a:420", "a:420:-", "a", "c:a:420", "f a:420:-", "-",
	} {
		wantNo(t, s, "layer "+entry, api.ErrWord)
		wantNo(t, s, "layer d:b:493 "+entry, api.ErrWord)
		wantNo(t, s, "layer "+entry+" d:b:493", api.ErrWord)
	}
	for entry, e := range map[string]api.Errno{
		"f::420:-": api.ErrName, "d::420": api.ErrName, "l::a": api.ErrName, "h::a": api.ErrName, "l:a:": api.ErrForm, "h:a:": api.ErrForm, "l::": api.ErrName,
		"f:a\x00b:420:-": api.ErrName, "l:a:b\x00": api.ErrForm, "f::4096:-": api.ErrRange, "d:" + strings.Repeat("x", 101) + ":420": api.ErrName,
		"f:" + strings.Repeat("x/", 150) + ":420:-": api.ErrName, "l:a:" + strings.Repeat("x", 101): api.ErrForm, "h:a:" + strings.Repeat("x", 101): api.ErrForm,
	} {
		wantNo(t, s, "layer "+entry, e)
		wantNo(t, s, "layer d:b:493 "+entry, e)
		wantNo(t, s, "layer "+entry+" d:b:4096", e)
		wantNo(t, s, "layer "+entry+" x", api.ErrWord)
	}
	want(t, s, "layer l:a:"+strings.Repeat("x", 100), "ok "+digestOf(tarOf(t, api.Entry{Name: "a", Kind: api.Link, Link: strings.Repeat("x", 100)})))
}

// Words of chapter 16: 16 entries, MaxLayers layers, and one more
func TestMostEntriesAndLayers(t *testing.T) {
	s := made(t, 400)
	line, layers := "layer", "manifest os arm"
	var entries []api.Entry
	var digests []string
	for n := range 16 {
		name := strconv.Itoa(n)
		line += " d:" + name + ":493"
		entries = append(entries, api.Entry{Name: name, Kind: api.Dir, Mode: 493})
		wantPut(t, s, line, tarOf(t, entries...))
	}
	wantNo(t, s, line+" d:x:493", api.ErrWord)
	wantNo(t, s, line+" d:x:493 d:y:493", api.ErrWord)
	wantNo(t, s, strings.ReplaceAll(line, "493", "4096")+" d:x:4096", api.ErrWord)
	for n := range api.MaxLayers + 1 {
		if n == api.MaxLayers {
			wantNo(t, s, layers+" "+digestOf(nil), api.ErrWord)
			wantNo(t, s, "manifest No No"+layers[len("manifest os arm"):]+" "+digestOf(nil), api.ErrWord)
			break
		}
		want(t, s, layers, "ok "+digestOf(imageOf("os", "arm", digests...)))
		digests = append(digests, digestOf([]byte{byte(n)}))
		layers += " " + digests[n]
	}
	want(t, s, layers, "ok "+digestOf(imageOf("os", "arm", digests...)))
}
