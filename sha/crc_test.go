package sha

import (
	"hash/crc32"
	"testing"
)

// P2.1
func TestCrc(t *testing.T) {
	if c := Crc([]byte("123456789")); c != 0xe3069283 {
		t.Errorf("Crc of 123456789: %x", c)
	}
	if Crc(nil) != 0 || Crc([]byte{}) != 0 {
		t.Error("Crc of no bytes")
	}
	table := crc32.MakeTable(crc32.Castagnoli)
	for n := range 600 {
		if b := text(n); Crc(b) != crc32.Checksum(b, table) {
			t.Errorf("Crc of %d bytes", n)
		}
	}
	for x := range 256 {
		if b := []byte{byte(x)}; Crc(b) != crc32.Checksum(b, table) {
			t.Errorf("Crc of the byte %d", x)
		}
	}
}

// P2.6
func TestCrcOfThree(t *testing.T) {
	for n := range 300 {
		a, b, c := text(n), text(n + 5)[5:], text(n + 70)[70:]
		all := make([]byte, n)
		for i := range all {
			all[i] = a[i] ^ b[i] ^ c[i]
		}
		if Crc(a)^Crc(b)^Crc(c) != Crc(all) {
			t.Errorf("three texts of %d bytes", n)
		}
	}
}
