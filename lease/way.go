package lease

import (
	"allotment/api"
	"allotment/place"
	"allotment/tree"
)

// side is where one node stands, as another one sees it.
type side int8

const (
	apart  side = iota // also that of a node that is not there
	inLine             // it is that node, above it, or below it
)

// inWayOf gives what tells whether a lease is in the way of the node of that id, and whether that node is there.
func inWayOf(t api.Node, node int) (inWay func(api.Lease) bool, there bool) {
	path, there := place.Path(t, node)
	if !there {
		return func(api.Lease) bool { return false }, false
	}
	sides := sidesOf(t, path)
	return func(x api.Lease) bool { return sides[x.Root] == inLine }, true
}

// sidesOf tells of the ids of t on which side the node stands to which the path goes; those that stand behind it are left out.
//
// It is one going for all leases; place.Within would take one for each. Of several nodes of one id the first one in the walk counts, so what is ahead of the node is told, too.
func sidesOf(t api.Node, path []int) pairs[int, side] {
	sides := pairs[int, side]{}
	for _, k := range path {
		sides.note(inLine, t.Id)
		for _, kid := range t.Kids[:k] {
			sides.note(apart, tree.Ids(kid)...)
		}
		t = t.Kids[k]
	}
	sides.note(inLine, tree.Ids(t)...)
	return sides
}
