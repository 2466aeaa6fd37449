package normal

import (
	"slices"

	"allotment/api"
	"allotment/tree"
)

// held is a step of a row under work. It shares memory with what was handed in, which stays as it is: what nodes of Sub come to have as text waits beside them.
type held struct {
	api.Step
	nodes map[int]*api.Node // Sub's by their ids, once they were asked for
	texts []api.Step        // such as Sub's nodes have when the step is told, the later ones behind
}

func hold(l []api.Step) []*held {
	steps := make([]*held, len(l))
	for at, s := range l {
		steps[at] = &held{Step: s}
	}
	return steps
}

// named gives Sub's nodes by their ids. They are kept, as many texts may ask for nodes of one great Sub.
func (h *held) named() map[int]*api.Node {
	if h.nodes == nil {
		h.nodes = firsts(&h.Sub)
	}
	return h.nodes
}

// told gives the step as it came to be, in new memory.
func (h *held) told() api.Step {
	s := h.Step
	s.Sub = tree.Copy(s.Sub)
	if len(h.texts) > 0 {
		nodes := firsts(&s.Sub)
		for _, text := range h.texts {
			nodes[text.Id].Text = text.Text
		}
	}
	return s
}

// firsts gives t's nodes by their ids, the first one in the walk of each. Nodes to come wait in a list, not in calls within calls, so the stack doesn't grow with the tree.
func firsts(t *api.Node) map[int]*api.Node {
	nodes := map[int]*api.Node{}
	waiting := []*api.Node{t} // the next one last
	for len(waiting) > 0 {
		last := len(waiting) - 1
		n := waiting[last]
		waiting = waiting[:last]
		if _, twice := nodes[n.Id]; !twice {
			nodes[n.Id] = n
		}
		for at := range slices.Backward(n.Kids) {
			waiting = append(waiting, &n.Kids[at])
		}
	}
	return nodes
}
