package wire_test

import (
	"runtime/debug"
	"slices"
	"strings"
	"testing"

	"allotment/api"
	"allotment/wire"
)

// R1: trees, Subs and rows that are great, or as deep as they are big, on a stack that doesn't bear as many calls.
func TestGreat(t *testing.T) {
	defer debug.SetMaxStack(debug.SetMaxStack(1 << 20))
	const nodes = 100_000
	for what, x := range map[string]api.Node{
		"side by side":      fan(1, nodes),
		"one below another": line(1, nodes),
		"both":              node(1, line(2, nodes/2), fan(nodes, nodes/2)),
		"a great text":      {Id: 1, Text: strings.Repeat("w", 1<<24)},
		"far down":          {Id: 1, Kids: []api.Node{fan(1, api.MaxNodes-2), line(1, nodes)}},
	} {
		standing(t, what, x, false)
		for fields, s := range plain() {
			s.Sub = x
			steady(t, fields+" with "+what, s, false)
		}
		for kind := first; kind <= last; kind++ {
			m := good(kind)
			m.Tree = x
			refused(t, what, m, false)
			m = good(kind)
			m.Steps = row(insert(1, 0, x), insert(1, 0, x))
			refused(t, what, m, false)
			a := good(kind)
			a.Tree, a.Steps = x, row(remove(1), insert(1, 0, x))
			same(t, what, a, tidy(good(kind)), false)
			b := a
			b.Steps = row(remove(1), insert(1, 0, node(1)))
			same(t, what, a, b, false)
		}
	}
	l := slices.Repeat(row(insert(1, 0, line(1, 40))), nodes)
	for kind := first; kind <= last; kind++ {
		m := good(kind)
		m.Steps = l
		refused(t, "a great row", m, false)
	}
}

// R1: a tree that has itself below it may not be sent, nor may what has it, and all that asks so ends.
func TestEndless(t *testing.T) {
	standing(t, "endless", loop(), false)
	for fields, s := range plain() {
		s.Sub = loop()
		steady(t, fields, s, false)
		s.Op = 5
		steady(t, fields+", no Op", s, false)
	}
	for kind := int8(-1); kind <= last+1; kind++ {
		m := api.Message{Kind: kind, From: 1, Server: 1, Tree: loop()}
		refused(t, "endless", m, false)
		m = good(max(kind, first) % last)
		m.Kind, m.Tree, m.Steps = kind, loop(), slices.Repeat(row(insert(1, 0, loop())), 100)
		refused(t, "endless", m, false)
	}
}

// R1: calls of zero things and of none.
func TestZero(t *testing.T) {
	if wire.Right(api.Message{}) || wire.Step(api.Step{}) || wire.Tree(api.Node{}) || !wire.Same(api.Message{}, api.Message{}) {
		t.Error("zero things")
	}
	if b, e := wire.Bytes(api.Message{}); len(b) > 0 || e != api.ErrArg {
		t.Error(b, e)
	}
	unread(t, "none", []byte{}, 0, api.ErrWire)
}
