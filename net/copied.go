package net

import (
	"slices"

	"allotment/api"
)

// atOnce is how far below a node its kids are copied by calls within calls.
const atOnce = 100

// copied gives m in memory that it shares with nothing. A tree may be as deep as it is big: what is further below than atOnce waits for its turn, so that the stack doesn't grow with it.
func copied(m api.Message) api.Message {
	var waiting []*api.Node
	var own func(n *api.Node, further int)
	own = func(n *api.Node, further int) {
		n.Kids = slices.Clone(n.Kids)
		for i := range n.Kids {
			if further == 0 {
				waiting = append(waiting, &n.Kids[i])
			} else {
				own(&n.Kids[i], further-1)
			}
		}
	}
	m.Steps = slices.Clone(m.Steps)
	for i := range m.Steps {
		own(&m.Steps[i].Sub, atOnce)
	}
	own(&m.Tree, atOnce)
	for len(waiting) > 0 {
		last := len(waiting) - 1
		n := waiting[last]
		waiting = waiting[:last]
		own(n, atOnce)
	}
	return m
}
