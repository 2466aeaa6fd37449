package undo_test

import (
	"runtime/debug"
	"slices"
	"testing"

	"allotment/api"
	"allotment/step"
	"allotment/tree"
	"allotment/undo"
)

// most is how many nodes a tree that is worked on may have.
const most = 10 * api.MaxNodes

// line gives nodes one below the other, from that id on.
func line(id, depth int) api.Node {
	x := node(id + depth - 1)
	for at := id + depth - 2; at >= id; at-- {
		x = node(at, x)
	}
	return x
}

// fan gives so many nodes, all but the first one side by side, from that id on.
func fan(id, count int) api.Node {
	x := node(id)
	for at := range count - 1 {
		x.Kids = append(x.Kids, node(id+1+at))
	}
	return x
}

// comb gives nodes one below the other, each but the last with a leaf ahead of the next one: 2 * depth - 1 nodes, from that id on.
func comb(id, depth int) api.Node {
	x := node(id + 2*depth - 2)
	for at := depth - 2; at >= 0; at-- {
		x = node(id+2*at, node(id+2*at+1), x)
	}
	return x
}

// shapes gives trees of so many nodes, an even number, from that id on.
func shapes(id, count int) map[string]api.Node {
	both := fan(id, count/2)
	both.Kids = append(both.Kids, line(id+count/2, count/2))
	return map[string]api.Node{
		"side by side":        fan(id, count),
		"one below the other": line(id, count),
		"a comb":              node(id, comb(id+1, count/2)),
		"both":                both,
	}
}

// tooGreat gives trees that have a node too many, from that id on.
func tooGreat(id int) map[string]api.Node {
	l := map[string]api.Node{
		"side by side, many":        fan(id, 300_000),
		"one below the other, many": line(id, 300_000),
	}
	for what, x := range shapes(id, most) {
		l[what] = node(id+most, x)
		x.Kids = append(x.Kids, node(id+most))
		l[what+", the last kid"] = x
	}
	return l
}

// each gives a step of each Op that goes on a tree whose root is 1, and whose greatest id is last.
func each(last int) []api.Step {
	return []api.Step{insert(last, 0, node(last+1)), remove(last), move(last, 1, 0), write(last, "x")}
}

// P10.1, P10.3: trees of just so many nodes, and just that deep, have steps that go. (What comes of an insert has too many nodes to go back.)
func TestMost(t *testing.T) {
	for what, x := range shapes(1, most) {
		if count := tree.Count(x); count != most {
			t.Fatal(what, count)
		}
		last := slices.Max(tree.Ids(x))
		for _, s := range each(last) {
			inverts(t, what, x, s, plainly(x, s), s.Op != api.StInsert)
			if s.Op != api.StMove && undo.Still(x, s) {
				t.Error(what, "still:", s.Op)
			}
		}
		for _, s := range []api.Step{remove(2), move(2, 1, 0), write(1, "x"), write(most/2, "x")} {
			inverts(t, what, x, s, plainly(x, s), true)
		}
		at := first(x, last)
		if !undo.Still(x, move(last, at.parent, at.place)) || !undo.Still(x, write(last, "")) || !undo.Still(x, write(1, "")) {
			t.Error(what, "not still")
		}
	}
	for what, x := range shapes(1, most-2) {
		s := insert(most-2, 0, node(most, node(most-1)))
		inverts(t, what+", that come to just as many", x, s, remove(most), true)
	}
}

// P10.1: of trees that have one node more, ErrArg, ahead of all other errors.
func TestTooMany(t *testing.T) {
	for what, x := range tooGreat(1) {
		for _, s := range append(each(3), each(77_777_777)...) {
			fails(t, what, x, s, api.ErrArg)
		}
		for _, s := range []api.Step{remove(1), move(1, 2, 0), move(1, 1, 0), insert(1, 0, node(1)), write(1, ""), {}, {Op: 9}} {
			fails(t, what, x, s, api.ErrArg)
		}
	}
}

// P10.1: of Subs that have one node more, ErrArg, ahead of all other errors; of just as many the inverse.
func TestSubMost(t *testing.T) {
	for what, sub := range tooGreat(1) {
		for _, s := range []api.Step{insert(999_999, 0, sub), insert(77_777_777, 0, sub), insert(999_999, -1, sub)} {
			fails(t, what, node(999_999), s, api.ErrArg)
			fails(t, what+", an id that is there", node(999_999, node(1)), s, api.ErrArg)
		}
		for _, s := range []api.Step{remove(2), move(2, 1, 0), write(2, ""), {}} {
			s.Sub = sub
			fails(t, what+", that the Op does not name", small(), s, api.ErrArg)
		}
	}
	for what, sub := range shapes(1, most) {
		inverts(t, what, node(9999), insert(9999, 0, sub), remove(1), false)
		fails(t, what+": no Parent", node(9999), insert(9998, 0, sub), api.ErrNone)
		fails(t, what+": the last id is there", node(slices.Max(tree.Ids(sub))), insert(slices.Max(tree.Ids(sub)), 0, sub), api.ErrTwice)
	}
	for what, sub := range shapes(1, most-2) {
		x := node(9999, node(9998))
		inverts(t, what+", that come to just as many", x, insert(9998, 0, sub), remove(1), true)
	}
}

// P10.1, R1: nodes that have themselves below them have too many.
func TestLoops(t *testing.T) {
	kids := make([]api.Node, 2)
	kids[0], kids[1] = api.Node{Id: 1, Kids: kids}, api.Node{Id: 2, Kids: kids}
	for _, s := range append(each(2), api.Step{}) {
		fails(t, "a tree with itself below it", kids[0], s, api.ErrArg)
	}
	fails(t, "a Sub with itself below it", node(9), insert(9, 0, kids[0]), api.ErrArg)
}

// P10.2, R1: Plain has Subs that are as great as can be, and as deep, on a stack that doesn't bear as many calls; but no Op but an insert has one.
func TestPlainMost(t *testing.T) {
	defer debug.SetMaxStack(debug.SetMaxStack(1 << 18))
	subs := tooGreat(1)
	subs["a comb, deep"] = comb(1, 100_000)
	for what, sub := range shapes(1, most) {
		subs[what+", just as many"] = sub
	}
	for what, sub := range subs {
		for op := int8(-1); op <= 6; op++ {
			full := api.Step{Op: op, Id: 1, Parent: 2, Place: 3, Text: "t", Sub: sub}
			p := undo.Plain(full)
			if !step.Same(p, full) {
				t.Error(what, "another step of the Op", op)
			}
			if op != api.StInsert && !tree.Same(p.Sub, api.Node{}) {
				t.Error(what, "a Sub of the Op", op)
			}
		}
	}
}
