// Package octets is whole numbers as bytes, the highest byte first: so the layers lay them on pages.
package octets

// Put fills all of b with the number x, which has room there.
func Put(b []byte, x int) {
	for i := len(b) - 1; i >= 0; i-- {
		b[i] = byte(x)
		x >>= 8
	}
}

// Number is the number that all of b is.
func Number(b []byte) int {
	x := 0
	for _, o := range b {
		x = x<<8 | int(o)
	}
	return x
}
