package place

import (
	"iter"

	"allotment/api"
)

// row is nodes side by side, and the place of the one that is meant.
type row struct {
	nodes []api.Node
	place int
}

func (r row) node() *api.Node {
	return &r.nodes[r.place]
}

// walk goes over t, each node ahead of its kids, and tells of each one the rows in which it and all above it stand, the root's first. They hold till the walk goes on.
//
// What is still to come waits in these rows, not in calls within calls, so the stack doesn't grow with the tree.
func walk(t api.Node) iter.Seq[[]row] {
	return func(yield func([]row) bool) {
		rows := next([]row{{[]api.Node{t}, -1}})
		for len(rows) > 0 && yield(rows) {
			kids := rows[len(rows)-1].node().Kids
			rows = next(append(rows, row{kids, -1}))
		}
	}
}

// next goes on by one place in the last row, or, where a row is over, in the one above it.
func next(rows []row) []row {
	for last := len(rows) - 1; last >= 0; last-- {
		if rows[last].place++; rows[last].place < len(rows[last].nodes) {
			return rows[:last+1]
		}
	}
	return nil
}

// way gives the rows in which the first node of that id and all above it stand, the root's first; none, if it is not there.
func way(t api.Node, id int) []row {
	for rows := range walk(t) {
		if rows[len(rows)-1].node().Id == id {
			return rows
		}
	}
	return nil
}

// shared tells how many nodes are on both ways.
func shared(a, b []row) int {
	count := 0
	for count < min(len(a), len(b)) && a[count].place == b[count].place {
		count++
	}
	return count
}

// follow gives the node to which the path goes from n, or nil, if there is none. Ahead of going to a node's kid it hands the node to leave.
//
// The closure goes down the path's first half, and from there the other one; so its calls within calls are few, however long the path is.
func follow(n *api.Node, path []int, leave func(*api.Node)) *api.Node {
	var down func(n *api.Node, path []int) *api.Node
	down = func(n *api.Node, path []int) *api.Node {
		switch half := len(path) / 2; {
		case n == nil || len(path) == 0:
			return n
		case len(path) > 1:
			return down(down(n, path[:half:half]), path[half:])
		case path[0] < 0 || path[0] >= len(n.Kids):
			return nil
		}
		leave(n)
		return &n.Kids[path[0]]
	}
	return down(n, path)
}
