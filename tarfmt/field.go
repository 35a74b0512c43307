package tarfmt

import "bytes"

// number is what the digits of a field tell. The longest field has digits for 33 bits.
func number(field []byte) (n int, ok bool) {
	last := len(field) - 1
	for _, d := range field[:last] {
		if d < '0' || d > '7' {
			return 0, false
		}
		n = n<<3 | int(d-'0')
	}
	return n, field[last] == 0 || field[last] == ' '
}

// sumOf is the sum that a field tells: many write it as a number of one byte less, and a blank behind.
func sumOf(field []byte) (n int, ok bool) {
	last := len(field) - 1
	if field[last] == ' ' && field[last-1] == 0 {
		return number(field[:last])
	}
	return number(field)
}

func putNumber(field []byte, n int) {
	last := len(field) - 1
	for i := last - 1; i >= 0; i-- {
		field[i] = '0' + byte(n%8)
		n /= 8
	}
	field[last] = 0
}

// text is the bytes of a field ahead of its first nought, behind which there may be no others.
func text(field []byte) (s string, ok bool) {
	ahead, behind, _ := bytes.Cut(field, []byte{0})
	return string(ahead), isNoughts(behind)
}

func isNoughts(b []byte) bool {
	for _, c := range b {
		if c != 0 {
			return false
		}
	}
	return true
}
