package link

import (
	"slices"

	"allotment/api"
	"allotment/tree"
)

// copied gives m in memory that it shares with nothing.
func copied(m api.Message) api.Message {
	m.Steps = slices.Clone(m.Steps)
	for i := range m.Steps {
		m.Steps[i].Sub = tree.Copy(m.Steps[i].Sub)
	}
	m.Tree = tree.Copy(m.Tree)
	return m
}
