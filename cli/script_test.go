package cli

import (
	"bytes"
	"encoding/hex"
	"strings"
	"testing"

	"dunnage/api"
)

const abc = "ok ba7816bf8f01cfea414140de5dae2223b00361a396177a9cb410ff61f20015ad\n"

// P16.2 (Run): scripts of no line, without a last line feed, with empty lines
func TestRun(t *testing.T) {
	for script, answers := range map[string]string{
		"":                                 "",
		"\n":                               "no 15\n",
		"\n\n":                             "no 15\nno 15\n",
		"tags":                             "ok\n",
		"tags\n":                           "ok\n",
		"tags\n\n":                         "ok\nno 15\n",
		"\ntags":                           "no 15\nok\n",
		"\n\ntags\n\n\npins":               "no 15\nno 15\nok\nno 15\nno 15\nok\n",
		"put 616263":                       abc,
		"put 616263\nput 6\nfree 1\n":      abc + "no 15\nno 15\n",
		"free\n":                           "ok 2831 508\n",
		"put 616263\r\n":                   "no 15\n",
		"tags\r":                           "no 15\n",
		" \n \n":                           "no 15\nno 15\n",
		"tags\x00\n\xff\xfe\n":             "no 15\nno 15\n",
		"put 61\nblobs x\nuntag t\ncat p":  "ok " + digestOf([]byte("a")) + "\nno 15\nno 4\nno 8\n",
		strings.Repeat("x", api.MaxLine+1): "no 6\n",
	} {
		if got := Run(script); got != answers {
			t.Errorf("%s: %s, want %s", brief(script), brief(got), brief(answers))
		}
	}
}

// P16.2 (Run): MaxScript bytes, and one more
func TestRunLengths(t *testing.T) {
	script := strings.Repeat("tags\n", api.MaxScript/5)
	if got := Run(script); len(script) != api.MaxScript || got != strings.Repeat("ok\n", api.MaxScript/5) {
		t.Errorf("MaxScript bytes: %s", brief(got))
	}
	for _, more := range []string{"\n", "x", "tags\n", script} {
		if got := Run(script + more); got != "no 6\n" {
			t.Errorf("more than MaxScript bytes: %s", brief(got))
		}
	}
	if got := Run(strings.Repeat("\n", api.MaxScript+1)); got != "no 6\n" {
		t.Errorf("line feeds: %s", brief(got))
	}
	if got := Run(strings.Repeat("\n", api.MaxScript)); got != strings.Repeat("no 15\n", api.MaxScript) {
		t.Errorf("line feeds: %s", brief(got))
	}
}

// P16.2 (Run), P6: of a store of its own on 3000 sectors: as Do on such a one, and each time anew
func TestRunIsDo(t *testing.T) {
	s := made(t, 3000)
	lines := []string{"free", "put 00ff", "layer f:a:420:6869 d:b:493", "blobs", "audit", "tags", "nothing", "free", "put -", "free"}
	answers := ""
	for _, line := range lines {
		answers += s.Do(line) + "\n"
	}
	for range 2 {
		if got := Run(strings.Join(lines, "\n")); got != answers {
			t.Errorf("%s, want %s", brief(got), brief(answers))
		}
	}
}

// P16.2 (Hex, UnHex): bytes of each kind, of none, and there and back
func TestHex(t *testing.T) {
	var all []byte
	for c := range 256 {
		b := []byte{byte(c)}
		all = append(all, b...)
		for _, b := range [][]byte{b, all} {
			digits := hex.EncodeToString(b)
			got, e := UnHex(digits)
			if Hex(b) != digits || !bytes.Equal(got, b) || e != api.OK {
				t.Errorf("%x: %s, %x, error %d", b, Hex(b), got, e)
			}
		}
	}
	for _, b := range [][]byte{nil, {}} {
		if Hex(b) != "-" {
			t.Errorf("no bytes: %q", Hex(b))
		}
	}
	if b, e := UnHex("-"); len(b) != 0 || e != api.OK {
		t.Errorf("-: %x, error %d", b, e)
	}
	long := bytes.Repeat([]byte{0xa5}, 1<<20)
	if b, e := UnHex(Hex(long)); !bytes.Equal(b, long) || e != api.OK {
		t.Error("many bytes")
	}
}

// P16.2 (UnHex): ErrForm
func TestUnHexErrors(t *testing.T) {
	for _, s := range []string{"", "0", "000", "--", "-0", "0-", "00-", "-00", "0x", "0x00", "AA", "aA", "Aa", "gg", "0g", "g0", "/0", "0:", "@0", "0`", " 00", "00 ", "0 0", "00\n", "é", "\xff\xff", "\x00\x00"} {
		if b, e := UnHex(s); len(b) != 0 || e != api.ErrForm {
			t.Errorf("%q: %x, error %d", s, b, e)
		}
	}
	for c := range 256 {
		isDigit := strings.IndexByte("0123456789abcdef", byte(c)) >= 0
		for _, s := range []string{string([]byte{byte(c), '0'}), string([]byte{'0', byte(c)}), string([]byte{'1', '2', byte(c), '0'})} {
			if b, e := UnHex(s); (e == api.OK) != isDigit || (len(b) > 0) != isDigit {
				t.Errorf("%q: %x, error %d", s, b, e)
			}
		}
	}
}

// P3: what is handed in stays as it is; what is answered is the caller's.
func TestHexOfWhatIsHandedIn(t *testing.T) {
	b := []byte("abcdef")
	digits := Hex(b[:3])
	clear(b[3:])
	if string(b[:3]) != "abc" || digits != "616263" {
		t.Errorf("%q, %s", b, digits)
	}
	one, _ := UnHex(digits)
	clear(one[:cap(one)])
	if two, _ := UnHex(digits); string(two) != "abc" {
		t.Errorf("%q", two)
	}
}
