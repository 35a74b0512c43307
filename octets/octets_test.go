package octets

import (
	"bytes"
	"testing"
)

// 'The highest first', as the chapters 3, 5 and 9 lay numbers.
func TestNumbers(t *testing.T) {
	for _, c := range []struct {
		x int
		b []byte
	}{
		{0, nil},
		{0, []byte{0}},
		{255, []byte{255}},
		{0x444e, []byte{0x44, 0x4e}},
		{1, []byte{0, 0, 0, 1}},
		{0x01020304, []byte{1, 2, 3, 4}},
		{0xfffefdfc, []byte{0xff, 0xfe, 0xfd, 0xfc}},
	} {
		got := bytes.Repeat([]byte{9}, len(c.b))
		Put(got, c.x)
		if !bytes.Equal(got, c.b) {
			t.Errorf("Put(%d): % x, want % x", c.x, got, c.b)
		}
		if x := Number(c.b); x != c.x {
			t.Errorf("Number(% x): %d, want %d", c.b, x, c.x)
		}
	}
}

func TestPutKeepsToItsBytes(t *testing.T) {
	b := []byte{9, 9, 9, 9, 9}
	Put(b[1:3], 0x0102)
	if !bytes.Equal(b, []byte{9, 1, 2, 9, 9}) {
		t.Errorf("% x", b)
	}
}
