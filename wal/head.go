package wal

import (
	"bytes"
	"maps"
	"slices"

	"dunnage/api"
)

// Of a head: its first bytes, where COUNT stands, and where the numbers do.
const (
	mark      = "\x44\x4e"
	countAt   = 2
	numbersAt = 4
)

// group is pages by their numbers.
type group map[int][]byte

func (g group) numbers() []int {
	return slices.Sorted(maps.Keys(g))
}

// headOf is the head of a log that has the pages of these numbers.
func headOf(numbers []int) []byte {
	head := make([]byte, api.SectorBytes)
	copy(head, mark)
	putPair(head, countAt, len(numbers))
	for i, n := range numbers {
		putPair(head, numbersAt+2*i, n)
	}
	return head
}

// numbers are those of the pages that the head tells; false, if the head is none.
func (a layout) numbers() ([]int, bool) {
	head, _ := a.Read(headAt)
	if bytes.Equal(head, make([]byte, api.SectorBytes)) {
		return nil, true
	}
	count := pair(head, countAt)
	if count > a.capacity() {
		return nil, false
	}
	numbers := make([]int, count)
	last := -1
	for i := range numbers {
		n := pair(head, numbersAt+2*i)
		if n <= last || !a.has(n) {
			return nil, false
		}
		numbers[i], last = n, n
	}
	// The mark and the noughts behind the numbers are right just if the head is the one of these numbers.
	return numbers, bytes.Equal(head, headOf(numbers))
}

func putPair(b []byte, at, x int) {
	b[at], b[at+1] = byte(x>>8), byte(x)
}

func pair(b []byte, at int) int {
	return int(b[at])<<8 | int(b[at+1])
}
