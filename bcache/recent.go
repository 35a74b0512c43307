package bcache

import (
	"cmp"
	"maps"
	"slices"
)

// recent are the pages that were used last, at most so many. It has no bytes of them:
// who has the log may write to it past the cache, and a clean page is as the log has it.
type recent struct {
	most int
	uses int         // so far
	used map[int]int // of a page, which of the uses was its last one
}

// use lets a page be the one that was used last.
func (r *recent) use(n int) {
	r.uses++
	r.used[n] = r.uses
	if len(r.used) > r.most {
		r.drop(r.oldest())
	}
}

// oldest is the page that was used longest ago.
func (r *recent) oldest() int {
	page, first := 0, r.uses+1
	for n, use := range r.used {
		if use < first { // no two pages have one use, so the map's order plays no part
			page, first = n, use
		}
	}
	return page
}

func (r *recent) drop(n int) {
	delete(r.used, n)
}

// inOrder are the pages, the one that was used longest ago first.
func (r *recent) inOrder() []int {
	return slices.SortedFunc(maps.Keys(r.used), func(a, b int) int {
		return cmp.Compare(r.used[a], r.used[b])
	})
}
