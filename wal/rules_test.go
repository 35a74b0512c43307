package wal

import (
	"bytes"
	"slices"
	"testing"

	"dunnage/api"
	"dunnage/disk"
)

// P1
func TestNil(t *testing.T) {
	var l *Log
	if l.Pages() != 0 || l.Capacity() != 0 || l.Recovered() != 0 || l.Disk() != nil {
		t.Error("nil has something")
	}
	for _, n := range []int{0, -1} {
		b, e := l.Read(n)
		wantError(t, "Read", e, api.ErrNil)
		if len(b) != 0 {
			t.Error("nil is read")
		}
	}
	wantError(t, "Commit", l.Commit(page(0, 1)), api.ErrNil)
	wantError(t, "Commit of none", l.Commit(), api.ErrNil)
	wantError(t, "Commit of what may not be", l.Commit(make([]api.Page, 200)...), api.ErrNil)
}

// P3: what is handed in stays as it is, in its order, spare room too, and is not kept.
func TestHandedInStays(t *testing.T) {
	l := opened(t, blank(t, 8), 3)
	room := append(full(1), 2, 3, 4)
	was := bytes.Clone(room)
	pages := []api.Page{page(3, 7), {Number: 1, Bytes: room[:api.SectorBytes]}, page(2, 8), page(0, 9)}
	wantError(t, "Commit", l.Commit(pages[:3]...), api.OK)
	for i, n := range []int{3, 1, 2, 0} {
		if pages[i].Number != n || i != 1 && !bytes.Equal(pages[i].Bytes, full([]int{7, 0, 8, 9}[i])) {
			t.Errorf("page %d of the list has changed", i)
		}
	}
	if !bytes.Equal(room, was) || len(pages[1].Bytes) != api.SectorBytes {
		t.Error("what was handed in has changed")
	}
	clear(room)
	clear(pages[0].Bytes)
	clear(pages)
	wantPages(t, "behind a change of what was handed in", l, 0, 1, 8, 7)
}

// P3: what is answered is the caller's.
func TestAnsweredIsTheCallers(t *testing.T) {
	l := opened(t, headed(t, 8, begun()), 3)
	a, _ := l.Read(1)
	b, _ := l.Read(1)
	clear(a[:cap(a)])
	if !bytes.Equal(b, full(5)) {
		t.Error("two answers share bytes")
	}
	wantPages(t, "behind a change of what was answered", l, 4, 5, 6, 7)
}

// P6: logs over one disk know nothing of each other.
func TestLogsAreApart(t *testing.T) {
	d := headed(t, 8, begun())
	a, b := opened(t, d, 3), opened(t, d, 3)
	wantError(t, "Commit", a.Commit(page(0, 1)), api.OK)
	wantPages(t, "the other log", b, 4, 5, 6, 7)
	wantError(t, "Commit", b.Commit(page(0, 2), page(3, 2)), api.OK)
	wantPages(t, "the first log", a, 1, 5, 6, 7)
	wantPages(t, "the other log", b, 2, 5, 6, 2)
}

// row answers numbers below a bound, each run the same ones.
func row(seed uint32) func(int) int {
	return func(bound int) int {
		seed = seed*1664525 + 1013904223
		return int(seed>>8) % bound
	}
}

// someGroup is some pages with numbers of no order, each once.
func someGroup(next func(int) int, pages, most int) []api.Page {
	numbers := make([]int, pages)
	for n := range numbers {
		numbers[n] = n
	}
	for n := range numbers {
		m := n + next(pages-n)
		numbers[n], numbers[m] = numbers[m], numbers[n]
	}
	var g []api.Page
	for _, n := range numbers[:next(min(pages, most)+1)] {
		g = append(g, page(n, next(256)))
	}
	return g
}

// P3.2, P3.3, P3.5, P3.6: many Commits, with crashes between them.
func TestAgainstTheModel(t *testing.T) {
	for seed := range uint32(30) {
		next := row(seed)
		sectors := 3 + next(20)
		size := 1 + next(sectors-2)
		l := opened(t, blank(t, sectors), size)
		model := make([]int, sectors-size-1)
		for range 25 {
			from, before := l.Disk().Ops(), slices.Clone(model)
			g := someGroup(next, l.Pages(), l.Capacity())
			wantError(t, "Commit", l.Commit(g...), api.OK)
			for _, p := range g {
				model[p.Number] = int(p.Bytes[0])
			}
			wantPages(t, "the model", l, model...)
			wantPages(t, "Open of Disk", opened(t, l.Disk(), size), model...)
			if next(3) == 0 {
				l = opened(t, someCrash(l.Disk(), from, next), size)
				if got := told(t, l); slices.Equal(got, before) {
					model = before
				} else if !slices.Equal(got, model) {
					t.Fatalf("behind a crash: %v, want %v or %v", got, before, model)
				}
			}
		}
	}
}

// someCrash is what one leaves anywhere behind op from.
func someCrash(d *disk.Disk, from int, next func(int) int) *disk.Disk {
	cut, _ := d.Cut(from + next(d.Ops()-from+1))
	_, writes := cut.Waiting()
	for i, w := range writes {
		writes[i] = next(w + 1)
	}
	left, _ := cut.Crash(writes...)
	return left
}
