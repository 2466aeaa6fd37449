package wire

import (
	"allotment/api"
	"allotment/changes"
	"allotment/undo"
)

// mostErrno is the greatest error's number that is sent.
const mostErrno = 999

// refusal is the panic by which what may not be is left.
type refusal struct{}

// may tells whether all that asks asks of may be.
func may(asks func()) (ok bool) {
	defer func() {
		switch why := recover().(type) {
		case nil, refusal:
		default:
			panic(why)
		}
	}()
	asks()
	return true
}

// ask leaves all that is being asked, up to may, unless it holds.
func ask(holds bool) {
	if !holds {
		panic(refusal{})
	}
}

func askNumber(n, least, most int) {
	ask(least <= n && n <= most)
}

func askText(s string) {
	ask(len(s) <= api.MaxWord)
}

// askTree goes no further than the first node that may not be, so neither time nor stack grow with a tree that is too great or too deep.
func askTree(t api.Node) {
	nodes := 0
	var below func(n api.Node, depth int)
	below = func(n api.Node, depth int) {
		nodes++
		ask(nodes <= api.MaxNodes && depth <= api.MaxDepth)
		askNumber(n.Id, 1, api.MaxNumber)
		askNumber(n.Kind, 0, api.MaxKinds)
		askText(n.Text)
		for _, kid := range n.Kids {
			below(kid, depth+1)
		}
	}
	below(t, 1)
}

func askStep(s api.Step) {
	switch s.Op {
	case api.StInsert:
		askNumber(s.Parent, 1, api.MaxNumber)
		askNumber(s.Place, 0, api.MaxNumber)
		askTree(s.Sub)
	case api.StDelete:
		askNumber(s.Id, 1, api.MaxNumber)
	case api.StMove:
		askNumber(s.Id, 1, api.MaxNumber)
		askNumber(s.Parent, 1, api.MaxNumber)
		askNumber(s.Place, 0, api.MaxNumber)
	case api.StText:
		askNumber(s.Id, 1, api.MaxNumber)
		askText(s.Text)
	default:
		ask(false)
	}
	ask(sameStep(s, undo.Plain(s))) // behind the rest: by now a Sub that Plain copies is none too great
}

func askSteps(l []api.Step) {
	ask(changes.Check(l) == api.OK)
	for _, s := range l {
		askStep(s)
	}
}
