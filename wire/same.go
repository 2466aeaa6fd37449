package wire

import (
	"slices"

	"allotment/api"
	"allotment/tree"
)

// numbers gives all of m but its steps and its tree.
func numbers(m api.Message) [11]int {
	return [...]int{int(m.Kind), m.From, m.To, m.Boot, m.Server, m.Number, m.Node, m.Lease, m.Epoch, m.Version, int(m.E)}
}

func sameSteps(a, b []api.Step) bool {
	return slices.EqualFunc(a, b, sameStep)
}

// sameStep asks the fields that the steps' Ops do not name, too.
func sameStep(a, b api.Step) bool {
	return a.Op == b.Op && a.Id == b.Id && a.Parent == b.Parent && a.Place == b.Place && a.Text == b.Text && sameTree(a.Sub, b.Sub)
}

// sameTree asks the roots ahead of all: so what is held against no tree is told at once, however great it is.
func sameTree(a, b api.Node) bool {
	return len(a.Kids) == len(b.Kids) && tree.Same(a, b)
}
