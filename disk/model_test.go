package disk

import (
	"testing"

	"dunnage/api"
)

// model is a disk by the document's words alone: all ops, from which everything is worked out anew.
type model struct {
	sectors int
	ops     [][2]int // a sector and what is written to it; -1: a flush
}

// at tells, behind the first k ops: what is flushed, and of each sector what waits, the oldest first.
func (m model) at(k int) (safe []int, waits [][]int) {
	safe, waits = make([]int, m.sectors), make([][]int, m.sectors)
	for _, o := range m.ops[:k] {
		if o[0] >= 0 {
			waits[o[0]] = append(waits[o[0]], o[1])
			continue
		}
		for n, w := range waits {
			if len(w) > 0 {
				safe[n] = w[len(w)-1]
			}
			waits[n] = nil
		}
	}
	return safe, waits
}

func (m model) check(t *testing.T, d *Disk, k int) {
	t.Helper()
	safe, waits := m.at(k)
	image := append([]int{}, safe...)
	var sectors, writes []int
	for n, w := range waits {
		if len(w) > 0 {
			image[n] = w[len(w)-1]
			sectors, writes = append(sectors, n), append(writes, len(w))
		}
	}
	wantDisk(t, "the model", d, fulls(image...), fulls(safe...), k)
	wantWaiting(t, "the model", d, sectors, writes)
}

func (m model) checkCrash(t *testing.T, d *Disk, next func(int) int) {
	t.Helper()
	safe, waits := m.at(len(m.ops))
	var keep []int
	for n, w := range waits {
		if len(w) > 0 {
			k := next(len(w) + 1)
			keep = append(keep, k)
			if k > 0 {
				safe[n] = w[k-1]
			}
		}
	}
	left, e := d.Crash(keep...)
	wantError(t, "Crash", e, api.OK)
	wantDisk(t, "Crash", left, fulls(safe...), fulls(safe...), 0)
}

// row answers numbers below a bound, each run the same ones.
func row(seed uint32) func(int) int {
	return func(bound int) int {
		seed = seed*1664525 + 1013904223
		return int(seed>>8) % bound
	}
}

// P1.2 to P1.4
func TestAgainstTheModel(t *testing.T) {
	for seed := range uint32(8) {
		next := row(seed)
		m := model{sectors: 1 + next(6)}
		d, _ := New(m.sectors)
		for i := range 150 {
			if next(9) == 0 {
				d.Flush()
				m.ops = append(m.ops, [2]int{-1, 0})
			} else {
				n, x := next(m.sectors), next(256)
				put(t, d, n, x)
				m.ops = append(m.ops, [2]int{n, x})
			}
			if next(4) == 0 {
				d = d.Fork()
			}
			m.check(t, d, len(m.ops))
			m.checkCrash(t, d, next)
			k := next(i + 2)
			cut, e := d.Cut(k)
			wantError(t, "Cut", e, api.OK)
			m.check(t, cut, k)
		}
	}
}
