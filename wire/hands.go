package wire

import (
	"allotment/api"
	"allotment/code"
)

// writer puts fields behind b.
type writer struct {
	b []byte
}

func (w *writer) number(n, _, _ int) int {
	w.b = code.Number(w.b, n)
	return n
}

func (w *writer) steps(l []api.Step) []api.Step {
	w.b = code.Steps(w.b, l)
	return l
}

func (w *writer) tree(t api.Node) api.Node {
	w.b = code.Node(w.b, t)
	return t
}

// reader gives fields as they come from r, whatever was there, and whether they may be or not: of a message that ends too early r tells where, ahead of all that may not be in it.
type reader struct {
	r *code.Reader
}

func (r reader) number(_, _, _ int) int {
	return r.r.Number()
}

func (r reader) steps(_ []api.Step) []api.Step {
	return r.r.Steps()
}

func (r reader) tree(_ api.Node) api.Node {
	return r.r.Node()
}

// judge takes fields out that may be; at one that may not it leaves all, up to may.
type judge struct{}

func (judge) number(n, least, most int) int {
	askNumber(n, least, most)
	return 0
}

func (judge) steps(l []api.Step) []api.Step {
	askSteps(l)
	return nil
}

func (judge) tree(t api.Node) api.Node {
	askTree(t)
	return api.Node{}
}
