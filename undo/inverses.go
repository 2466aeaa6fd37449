package undo

import (
	"slices"

	"allotment/api"
	"allotment/place"
)

// inverse tells what takes back a step that goes on t. What it tells shares memory with t.
type inverse func(t api.Node, s api.Step) api.Step

// inverses gives the inverses of steps, by their Op; there is none at 0.
func inverses() [api.StText + 1]inverse {
	return [...]inverse{api.StInsert: takeOut, api.StDelete: putBack, api.StMove: moveBack, api.StText: writeBack}
}

func takeOut(_ api.Node, s api.Step) api.Step {
	return api.Step{Op: api.StDelete, Id: s.Sub.Id}
}

func putBack(t api.Node, s api.Step) api.Step {
	n, parent, at := whence(t, s.Id)
	return api.Step{Op: api.StInsert, Parent: parent, Place: at, Sub: n}
}

func moveBack(t api.Node, s api.Step) api.Step {
	_, parent, at := whence(t, s.Id)
	return api.Step{Op: api.StMove, Id: s.Id, Parent: parent, Place: at} // as many stand ahead of it, whether it is counted or not
}

func writeBack(t api.Node, s api.Step) api.Step {
	n, _, _ := whence(t, s.Id)
	return api.Step{Op: api.StText, Id: s.Id, Text: n.Text}
}

// whence gives the first node of that id, which is there, and its parent and place; of the root 0 and 0. The node is t's own, not a copy.
func whence(t api.Node, id int) (n api.Node, parent, at int) {
	path, _ := place.Path(t, id)
	n = t
	for _, at = range path {
		parent, n = n.Id, n.Kids[at]
	}
	return n, parent, at
}

// copied gives x in new memory. Rows whose nodes have the kids of x still wait in a list, not in calls within calls, so the stack doesn't grow with the tree.
func copied(x api.Node) api.Node {
	var waiting [][]api.Node
	own := func(n *api.Node) {
		n.Kids = slices.Clone(n.Kids) // an empty row, too: there may be room behind it
		waiting = append(waiting, n.Kids)
	}
	own(&x)
	for len(waiting) > 0 {
		last := len(waiting) - 1
		row := waiting[last]
		waiting = waiting[:last]
		for i := range row {
			own(&row[i])
		}
	}
	return x
}
