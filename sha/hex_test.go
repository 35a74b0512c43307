package sha

import (
	"encoding/hex"
	"strings"
	"testing"

	"dunnage/api"
)

// P2.3
func TestHex(t *testing.T) {
	h := api.Hash{0x01, 0x23, 0x45, 0x67, 0x89, 0xab, 0xcd, 0xef, 31: 0xf0}
	want := "0123456789abcdef" + strings.Repeat("0", 46) + "f0"
	if Hex(h) != want {
		t.Errorf("Hex: %s", Hex(h))
	}
	if got, e := UnHex(want); got != h || e != api.OK {
		t.Errorf("UnHex: %v %d", got, e)
	}
	if Hex(api.Hash{}) != strings.Repeat("0", 64) {
		t.Errorf("Hex of noughts: %s", Hex(api.Hash{}))
	}
}

// P2.5
func TestThereAndBack(t *testing.T) {
	for n := range 300 {
		var h api.Hash
		for i := range h {
			h[i] = byte(n + i*n)
		}
		if Hex(h) != hex.EncodeToString(h[:]) {
			t.Errorf("Hex of %v: %s", h, Hex(h))
		}
		if got, e := UnHex(Hex(h)); got != h || e != api.OK {
			t.Errorf("UnHex of %s: %v %d", Hex(h), got, e)
		}
	}
}

// P2.3, P2
func TestUnHexOfWrongTexts(t *testing.T) {
	right := Hex(Sum(nil))
	wrong := []string{
		"", "0", right[:1], right[:62], right[:63], right + "0", right + "00", right + right,
		" " + right, right + "\n", "0x" + right[2:], strings.ToUpper(right),
		strings.Repeat("é", 32), strings.Repeat("\xff", 64), strings.Repeat("\x00", 64),
	}
	for at := range 64 {
		for _, c := range "/:@AFG`g \x00" {
			wrong = append(wrong, right[:at]+string(c)+right[at+1:])
		}
		wrong = append(wrong, right[:at]+"\x80"+right[at+1:])
	}
	for _, s := range wrong {
		if h, e := UnHex(s); e != api.ErrForm || h != (api.Hash{}) {
			t.Errorf("UnHex(%q): %v %d", s, h, e)
		}
	}
}

// P2.3: of all bytes just sixteen are digits, at the higher place and at the lower one.
func TestUnHexOfAllBytes(t *testing.T) {
	for x := range 256 {
		value := strings.IndexByte("0123456789abcdef", byte(x))
		noughts := strings.Repeat("0", 63)
		high, eh := UnHex(string([]byte{byte(x)}) + noughts)
		low, el := UnHex(noughts + string([]byte{byte(x)}))
		if value < 0 {
			if eh != api.ErrForm || el != api.ErrForm {
				t.Errorf("the byte %d is a digit", x)
			}
			continue
		}
		if eh != api.OK || el != api.OK || high != (api.Hash{0: byte(16 * value)}) || low != (api.Hash{31: byte(value)}) {
			t.Errorf("the digit %c: %v %v", x, high, low)
		}
	}
}
