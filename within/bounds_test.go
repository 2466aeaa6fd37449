package within_test

import (
	"runtime/debug"
	"slices"
	"testing"

	"allotment/api"
	"allotment/within"
)

// most is how many nodes a tree that steps work on may have.
const most = 10 * api.MaxNodes

// line gives nodes one below the other, from that id on.
func line(id, depth int) api.Node {
	x := node(id + depth - 1)
	for at := id + depth - 2; at >= id; at-- {
		x = node(at, x)
	}
	return x
}

// fan gives so many nodes, all but the first one side by side, from that id on.
func fan(id, count int) api.Node {
	x := node(id)
	for at := range count - 1 {
		x.Kids = append(x.Kids, node(id+1+at))
	}
	return x
}

// loop gives a node that has itself below it, twice.
func loop() api.Node {
	kids := make([]api.Node, 2)
	kids[0], kids[1] = api.Node{Id: 1, Kids: kids}, api.Node{Id: 2, Kids: kids}
	return kids[0]
}

// P13.1: trees that are too great for any step to go.
func TestStepGreat(t *testing.T) {
	const nodes = 20_000
	for what, x := range map[string]api.Node{
		"side by side":      node(nodes+1, node(nodes+2), fan(1, nodes), node(nodes+3)),
		"one below another": node(nodes+1, node(nodes+2), line(1, nodes), node(nodes+3)),
	} {
		for _, id := range []int{1, 2, api.MaxNodes, api.MaxNodes + 1, most + 1, nodes - 1, nodes} {
			if !within.Step(x, 1, write(id, "a")) || !within.Step(x, 1, insert(id, 0, node(0))) || within.Step(x, 1, remove(id)) != (id != 1) {
				t.Errorf("%s: %d is not inside", what, id)
			}
			for _, out := range []int{nodes + 1, nodes + 2, nodes + 3, nodes + 4, 0} {
				if within.Step(x, 1, move(id, out, 0)) || within.Step(x, 1, move(out, id, 0)) || within.Step(x, out, write(id, "a")) != (out == nodes+1) {
					t.Errorf("%s: %d, %d: inside", what, id, out)
				}
			}
			if at, e := within.All(lists(), x, 1, row(write(id, "a"), remove(99))); at != 0 || e != api.ErrArg {
				t.Errorf("%s, %d: %d, %v", what, id, at, e)
			}
		}
		if at, e := within.All(lists(), x, nodes+2, row(write(1, "a"))); at != 0 || e != api.ErrOutside {
			t.Errorf("%s: %d, %v", what, at, e)
		}
		if at, e := within.All(lists(), x, nodes+4, row(write(1, "a"))); at != 0 || e != api.ErrNone {
			t.Errorf("%s: %d, %v", what, at, e)
		}
		if at, e := within.All(lists(), x, nodes, nil); at != 0 || e != api.OK {
			t.Errorf("%s: %d, %v", what, at, e)
		}
	}
}

// R1: trees and Subs that are as deep as they are big, on a stack that doesn't bear as many calls.
func TestDeep(t *testing.T) {
	defer debug.SetMaxStack(debug.SetMaxStack(1 << 20))
	const depth = 100_000
	x := line(1, depth)
	for _, root := range []int{1, 2, depth / 2, depth} {
		if !within.Step(x, root, write(depth, "a")) || !within.Step(x, root, insert(depth, 0, x)) || within.Step(x, root, write(root-1, "a")) {
			t.Error(root)
		}
		if at, e := within.All(lists(), x, root, row(write(depth, "a"))); at != 0 || e != api.ErrArg {
			t.Error(root, at, e)
		}
	}
	s := insert(2, 0, x)
	if !slices.Equal(slices.Collect(within.Touches(s)), []int{2}) || !within.Step(small(), 2, s) {
		t.Error("a deep Sub")
	}
	if at, e := within.All(lists(), small(), 2, row(s)); at != 0 || e != api.ErrLong {
		t.Error(at, e)
	}
	s.Op = api.StText
	s.Id = 3
	if at, e := within.All(lists(), small(), 2, row(write(3, "a"), s)); at != 1 || e != api.ErrArg {
		t.Error(at, e)
	}
}

// R1: rows that are no change sets by far are not gone over.
func TestVeryLong(t *testing.T) {
	for _, s := range []api.Step{write(2, "a"), write(1, "a"), {}, insert(2, 0, node(9))} {
		if at, e := within.All(lists(), small(), 2, slices.Repeat(row(s), 100_000)); at != 0 || e != api.ErrLong {
			t.Error(at, e)
		}
	}
}

// P13.2: trees of just MaxNodes nodes and just MaxDepth deep go, those with one more do not, though all of it is inside.
func TestAllBounds(t *testing.T) {
	full := node(1, node(2), fan(3, api.MaxNodes-3))
	answers(t, "just MaxNodes", lists(), full, 2, row(insert(2, 0, node(900)), write(900, "a")), 2, api.OK)
	answers(t, "one more", lists(), full, 2, row(insert(2, 0, node(900)), insert(900, 0, node(901))), 1, api.ErrForm)
	answers(t, "one more that went", lists(), full, 2, row(insert(2, 0, node(900)), remove(900), insert(2, 0, node(901))), 3, api.OK)
	deep := line(1, api.MaxDepth-1)
	answers(t, "just MaxDepth", lists(), deep, api.MaxDepth-1, row(insert(api.MaxDepth-1, 0, node(900))), 1, api.OK)
	answers(t, "one deeper", lists(), deep, api.MaxDepth-1, row(insert(api.MaxDepth-1, 0, node(900)), insert(900, 0, node(901))), 1, api.ErrForm)
	answers(t, "the greatest id", lists(), small(), 2, row(insert(2, 0, node(api.MaxNumber)), write(api.MaxNumber, "a")), 2, api.OK)
	answers(t, "one greater", lists(), small(), 2, row(insert(2, 0, node(api.MaxNumber+1))), 0, api.ErrArg)
}
