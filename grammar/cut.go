package grammar

import (
	"slices"

	"allotment/api"
)

// truths has a truth for each place of a row, the one behind its last kid too.
type truths [api.MaxNodes + 1]bool

// canBeCut tells whether kids (at most MaxNodes of them) can be cut into stretches, one a slot.
func canBeCut(kids []int, slots []api.Slot) bool {
	ends := truths{0: true}
	for _, s := range slots {
		ends = stretched(kids, s, ends)
	}
	return ends[len(kids)]
}

// stretched tells where a stretch of s may end, if it may begin where begins is true. A stretch of each length counts, not the longest alone: the slots behind it may want what a shorter one leaves.
func stretched(kids []int, s api.Slot, begins truths) truths {
	own := fitting(kids, s)
	var ends truths
stretches:
	for begin, may := range begins[:len(kids)+1] {
		if !may {
			continue
		}
		for length := range s.Most + 1 {
			if length >= s.Least {
				ends[begin+length] = true
			}
			if !own[begin+length] { // own is false behind the last kid, too
				continue stretches
			}
		}
	}
	return ends
}

// fitting tells which kids are of the slot's kinds.
func fitting(kids []int, s api.Slot) truths {
	var own truths
	for i, kind := range kids {
		own[i] = slices.Contains(s.Kinds, kind)
	}
	return own
}
