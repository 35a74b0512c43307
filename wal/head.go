package wal

import (
	"bytes"
	"maps"
	"slices"

	"dunnage/api"
	"dunnage/octets"
)

// Of a head: its first bytes, where COUNT stands, and where the numbers do, of two bytes each.
const (
	mark      = "\x44\x4e"
	countAt   = 2
	numbersAt = 4
)

// group is pages by their numbers.
type group map[int][]byte

func (g group) numbers() []int {
	return slices.Sorted(maps.Keys(g))
}

// headOf is the head of a log that has the pages of these numbers.
func headOf(numbers []int) []byte {
	head := make([]byte, api.SectorBytes)
	copy(head, mark)
	octets.Put(head[countAt:numbersAt], len(numbers))
	for i, n := range numbers {
		octets.Put(numberIn(head, i), n)
	}
	return head
}

// numbers are those of the pages that the head tells; false, if the head is none.
func (a layout) numbers() ([]int, bool) {
	head, _ := a.Read(headAt)
	if bytes.Equal(head, make([]byte, api.SectorBytes)) {
		return nil, true
	}
	count := octets.Number(head[countAt:numbersAt])
	if count > a.capacity() {
		return nil, false
	}
	numbers := make([]int, count)
	last := -1
	for i := range numbers {
		n := octets.Number(numberIn(head, i))
		if n <= last || !a.has(n) {
			return nil, false
		}
		numbers[i], last = n, n
	}
	// The mark and the noughts behind the numbers are right just if the head is the one of these numbers.
	return numbers, bytes.Equal(head, headOf(numbers))
}

// numberIn is where the number of the log's page i stands.
func numberIn(head []byte, i int) []byte {
	return head[numbersAt+2*i:][:2]
}
