package cli

import (
	"strings"

	"dunnage/api"
)

const (
	digits  = "0123456789abcdef"
	noBytes = "-"
)

// Hex is bytes in digits.
func Hex(b []byte) string {
	if len(b) == 0 {
		return noBytes
	}
	s := make([]byte, 0, 2*len(b))
	for _, x := range b {
		s = append(s, digits[x/16], digits[x%16])
	}
	return string(s)
}

// UnHex reads digits.
func UnHex(s string) ([]byte, api.Errno) {
	if s == noBytes {
		return nil, api.OK
	}
	if s == "" || len(s)%2 != 0 {
		return nil, api.ErrForm
	}
	b := make([]byte, 0, len(s)/2)
	for at := 0; at < len(s); at += 2 {
		high, low := strings.IndexByte(digits, s[at]), strings.IndexByte(digits, s[at+1])
		if high < 0 || low < 0 {
			return nil, api.ErrForm
		}
		b = append(b, byte(16*high+low))
	}
	return b, api.OK
}
