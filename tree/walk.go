package tree

import (
	"iter"
	"slices"

	"allotment/api"
)

// atOnce is how far the walk goes down by calls within calls.
const atOnce = 100

// rest is nodes side by side to which the walk comes later.
type rest struct {
	depth int
	nodes []api.Node
}

// each goes over the depths and nodes of a row with all below them, in the walk. It tells the nodes themselves, and looks at a node's kids only when it was told, so that they can be put anew.
//
// A tree may be as deep as it is big: what is further below than atOnce waits till the calls within calls are over, and so does all that comes behind it; so the stack doesn't grow with the tree.
func each(nodes []api.Node) iter.Seq2[int, *api.Node] {
	return func(yield func(int, *api.Node) bool) {
		left := false
		waiting := []rest{{1, nodes}}           // the next one last
		var later []rest                        // what the calls put off, the next one first
		var down func(r rest, further int) bool // has it gone over all of r?
		down = func(r rest, further int) bool {
			for i := range r.nodes {
				if further == 0 {
					later = append(later, r)
					return false
				}
				n := &r.nodes[i]
				if left = !yield(r.depth, n); left {
					return false
				}
				if !down(rest{r.depth + 1, n.Kids}, further-1) {
					if i+1 < len(r.nodes) {
						later = append(later, rest{r.depth, r.nodes[i+1:]})
					}
					return false
				}
			}
			return true
		}
		for len(waiting) > 0 && !left {
			last := len(waiting) - 1
			next := waiting[last]
			waiting, later = waiting[:last], later[:0]
			down(next, atOnce)
			slices.Reverse(later)
			waiting = append(waiting, later...)
		}
	}
}

// row gives what of tells of each node, in the walk.
func row[T any](t api.Node, of func(*api.Node) T) []T {
	l := make([]T, 0, Count(t))
	for _, n := range each([]api.Node{t}) {
		l = append(l, of(n))
	}
	return l
}

// lone is a node without its kids. As it tells how many they are, a walk's row of these tells the whole tree.
type lone struct {
	id, kind, kids int
	text           string
}

func alone(n *api.Node) lone {
	return lone{n.Id, n.Kind, len(n.Kids), n.Text}
}
