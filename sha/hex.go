package sha

import (
	"strings"

	"dunnage/api"
)

const digits = "0123456789abcdef"

// Hex is a digest in digits.
func Hex(h api.Hash) string {
	s := make([]byte, 0, 2*len(h))
	for _, x := range h {
		s = append(s, digits[x/16], digits[x%16])
	}
	return string(s)
}

// UnHex reads a digest.
func UnHex(s string) (api.Hash, api.Errno) {
	var h api.Hash
	if len(s) != 2*len(h) {
		return api.Hash{}, api.ErrForm
	}
	for i := range h {
		high, low := strings.IndexByte(digits, s[2*i]), strings.IndexByte(digits, s[2*i+1])
		if high < 0 || low < 0 {
			return api.Hash{}, api.ErrForm
		}
		h[i] = byte(16*high + low)
	}
	return h, api.OK
}
