package within

import (
	"allotment/api"
	"allotment/tree"
)

// subtree gives the ids of the nodes in root's subtree of t; none, if root is not there. Of several nodes of one id the first one in the walk counts: where that one stands ahead of root, the id is not in it.
func subtree(t api.Node, root int) map[int]struct{} {
	ids := map[int]struct{}{}
	top, there := tree.Find(t, root)
	if !there {
		return ids
	}
	for _, id := range tree.Ids(top) {
		ids[id] = struct{}{}
	}
	for _, id := range tree.Ids(t) {
		if id == root {
			break
		}
		delete(ids, id)
	}
	return ids
}

// inside tells whether s touches nodes of these ids alone, and leaves root where it is. An Op that is none touches none, so it is not.
func inside(ids map[int]struct{}, root int, s api.Step) bool {
	in := false
touching:
	for id := range Touches(s) {
		switch _, in = ids[id]; {
		case !in:
			break touching
		case id == root && takes(s, id):
			in = false
			break touching
		}
	}
	return in
}

// takes tells whether s deletes or moves the node of that id.
func takes(s api.Step, id int) bool {
	return s.Id == id && (s.Op == api.StDelete || s.Op == api.StMove)
}
