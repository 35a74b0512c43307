// Package crashes is what a power that fails may leave of a disk. The layers' tests ask for it; no layer does.
package crashes

import (
	"iter"
	"slices"

	"dunnage/api"
	"dunnage/disk"
)

const most = 1024 // choices of what is kept that are gone through one by one

// Behind yields, of each op of a disk from one on, the op's number, and the disks that a crash behind it leaves.
func Behind(d *disk.Disk, from int) iter.Seq2[int, *disk.Disk] {
	return func(yield func(int, *disk.Disk) bool) {
		for k := from; k <= d.Ops(); k++ {
			for left := range Of(d, k) {
				if !yield(k, left) {
					return
				}
			}
		}
	}
}

// Of yields the disks that a crash behind op k of a disk leaves: all of them, or, where these are too many, some.
func Of(d *disk.Disk, k int) iter.Seq[*disk.Disk] {
	return func(yield func(*disk.Disk) bool) {
		cut, e := d.Cut(k)
		if e != api.OK {
			return
		}
		_, writes := cut.Waiting()
		for keep := range choices(writes) {
			left, _ := cut.Crash(keep...)
			if !yield(left) {
				return
			}
		}
	}
}

// choices yields how many of the writes that wait are kept, of each sector.
func choices(writes []int) iter.Seq[[]int] {
	all := 1
	for _, n := range writes {
		if all *= n + 1; all > most {
			return some(writes)
		}
	}
	return every(writes)
}

func every(writes []int) iter.Seq[[]int] {
	return func(yield func([]int) bool) {
		keep := make([]int, len(writes))
		for yield(keep) {
			i := 0
			for i < len(keep) && keep[i] == writes[i] {
				keep[i] = 0
				i++
			}
			if i == len(keep) {
				return
			}
			keep[i]++
		}
	}
}

// some are nothing, all, and of each sector alone all or nothing.
func some(writes []int) iter.Seq[[]int] {
	return func(yield func([]int) bool) {
		none := make([]int, len(writes))
		if !yield(none) || !yield(writes) {
			return
		}
		for i := range writes {
			alone, without := slices.Clone(none), slices.Clone(writes)
			alone[i], without[i] = writes[i], 0
			if !yield(alone) || !yield(without) {
				return
			}
		}
	}
}
