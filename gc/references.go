package gc

import (
	"iter"
	"maps"

	"dunnage/api"
)

// references are those that are kept; what manifests name is asked of their blobs.
type references struct {
	holds map[api.Hash]int
	tags  map[string]api.Hash
	pins  map[string]api.Hash
}

func noReferences() references {
	return references{map[api.Hash]int{}, map[string]api.Hash{}, map[string]api.Hash{}}
}

func (r references) forget() {
	clear(r.holds)
	clear(r.tags)
	clear(r.pins)
}

func (r references) isEmpty() bool {
	return len(r.holds)+len(r.tags)+len(r.pins) == 0
}

// standsFor is what a word stands for, of tags or of pins.
func standsFor(words map[string]api.Hash, word string) (api.Hash, api.Errno) {
	h, ok := words[word]
	if !ok {
		return api.Hash{}, api.ErrNone
	}
	return h, api.OK
}

// counts is how many references each blob has that has some.
type counts map[api.Hash]int

// reference is one of any kind.
type reference interface {
	addTo(c counts)
}

// holding is all holds of a blob.
type holding struct {
	blob  api.Hash
	times int
}

func (x holding) addTo(c counts) {
	c[x.blob] += x.times
}

// standing is a word, a tag or a pin, that stands for a manifest.
type standing struct {
	manifest api.Hash
}

func (x standing) addTo(c counts) {
	c[x.manifest]++
}

// naming is a manifest, which names its layers.
type naming api.Manifest

func (x naming) addTo(c counts) {
	for _, h := range x.Layers {
		c[h]++
	}
}

// own yields those that are kept, in any order.
func (r references) own() iter.Seq[reference] {
	return func(yield func(reference) bool) {
		for h, times := range r.holds {
			if !yield(holding{h, times}) {
				return
			}
		}
		for h := range r.stoodFor() {
			if !yield(standing{h}) {
				return
			}
		}
	}
}

// stoodFor yields for each word what it stands for, in any order.
func (r references) stoodFor() iter.Seq[api.Hash] {
	return func(yield func(api.Hash) bool) {
		for _, words := range []map[string]api.Hash{r.tags, r.pins} {
			for h := range maps.Values(words) {
				if !yield(h) {
					return
				}
			}
		}
	}
}

// manifests are the blobs that words stand for, each once.
func (r references) manifests() map[api.Hash]struct{} {
	all := map[api.Hash]struct{}{}
	for h := range r.stoodFor() {
		all[h] = struct{}{}
	}
	return all
}
