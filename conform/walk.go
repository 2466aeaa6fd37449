package conform

import (
	"iter"

	"allotment/api"
)

// walk goes over t, each node ahead of its kids, and tells their depths. It doesn't copy them, so they are to be read alone. The stack grows with the depth, so a tree that may have more than MaxNodes nodes is left behind so many.
func walk(t api.Node) iter.Seq2[int, *api.Node] {
	return func(yield func(int, *api.Node) bool) {
		below(&t, 1, yield)
	}
}

// below goes over x and all below it, as long as they are wanted, and tells whether more are.
func below(x *api.Node, depth int, yield func(int, *api.Node) bool) bool {
	if !yield(depth, x) {
		return false
	}
	for i := range x.Kids {
		if !below(&x.Kids[i], depth+1, yield) {
			return false
		}
	}
	return true
}

// tooMany tells whether t has more than MaxNodes nodes. It goes no further than one past them, so its time and stack are bound, however great or deep t is.
func tooMany(t api.Node) bool {
	count := 0
	for range walk(t) {
		if count++; count > api.MaxNodes {
			return true
		}
	}
	return false
}

// fault tells which node of t, that hasn't too many, is at fault first.
func fault(g api.Grammar, t api.Node) (int, api.Errno) {
	ids := map[int]struct{}{}
	place := 0
	for depth, x := range walk(t) {
		if atFault(g, ids, depth, x) {
			return place, api.ErrForm
		}
		ids[x.Id] = struct{}{}
		place++
	}
	return 0, api.OK
}

// atFault tells whether x may not be at that depth, behind nodes of those ids.
func atFault(g api.Grammar, ids map[int]struct{}, depth int, x *api.Node) bool {
	_, ahead := ids[x.Id]
	switch {
	case depth > api.MaxDepth:
	case x.Id < 1 || x.Id > api.MaxNumber:
	case ahead:
	case !Node(g, *x):
	default:
		return false
	}
	return true
}
