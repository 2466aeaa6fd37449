package step_test

import (
	"slices"
	"testing"

	"allotment/api"
	"allotment/step"
	"allotment/tree"
)

// most is how many nodes a tree that is worked on may have.
const most = 10 * api.MaxNodes

// comb gives nodes one below the other, each but the last with a leaf ahead of the next one: 2 * depth - 1 nodes, from that id on.
func comb(id, depth int) api.Node {
	x := node(id + 2*depth - 2)
	for at := depth - 2; at >= 0; at-- {
		x = node(id+2*at, node(id+2*at+1), x)
	}
	return x
}

// each gives a step of each Op that goes on a tree whose root is 1, and whose greatest id is last.
func each(last int) []api.Step {
	return []api.Step{insert(last, 0, node(last+1)), remove(last), move(last, 1, 0), write(last, "x")}
}

// P9.1, P9.2: trees of just so many nodes, and just that deep, are worked on; what comes may have more.
func TestMost(t *testing.T) {
	both := fan(1, most/2)
	both.Kids = append(both.Kids, line(most/2+1, most/2))
	for what, x := range map[string]api.Node{"side by side": fan(1, most), "one below the other": line(1, most), "both": both, "a comb": node(1, comb(2, most/2))} {
		if count := tree.Count(x); count != most {
			t.Fatal(what, count)
		}
		last := slices.Max(tree.Ids(x))
		for _, s := range each(last) {
			y, e := step.Apply(x, s)
			want, wantE := plainly(x, s)
			if e != api.OK || wantE != api.OK || !tree.Same(y, want) {
				t.Errorf("%s: the Op %d: %v, %v", what, s.Op, e, wantE)
			}
			if y, e := step.Do(lists(), x, s); e != api.ErrForm || y.Id != 0 {
				t.Errorf("%s: the Op %d conforms: %v", what, s.Op, e)
			}
		}
	}
	if y, e := step.Apply(line(1, most), insert(most, 0, line(most+1, most))); e != api.OK || !tree.Same(y, line(1, 2*most)) {
		t.Error("a line below a line:", e)
	}
	if y, e := step.Apply(fan(1, most), insert(1, most-1, fan(most+1, most))); e != api.OK || tree.Count(y) != 2*most || len(y.Kids[most-1].Kids) != most-1 {
		t.Error("a fan in a fan:", e)
	}
}

// tooGreat gives trees that have a node too many, from that id on.
func tooGreat(id int) map[string]api.Node {
	inside := fan(id, most/2)
	inside.Kids[3] = fan(id+most, most/2+2)
	return map[string]api.Node{
		"side by side":        fan(id, most+1),
		"one below the other": line(id, most+1),
		"a comb":              comb(id, most/2+1),
		"the first kid":       node(id, fan(id+1, most)),
		"the last kid":        node(id, node(id+1), node(id+2, line(id+3, most-2))),
		"a kid in the midst":  inside,
		"very wide":           fan(id, 300_000),
		"very deep":           line(id, 300_000),
	}
}

// P9.1: of trees that have one node more, ErrArg, ahead of all other errors.
func TestTooMany(t *testing.T) {
	for what, x := range tooGreat(1) {
		for _, s := range append(each(3), each(77_777_777)...) {
			fails(t, what, x, s, api.ErrArg)
			done(t, what, lists(), x, s, "", api.ErrArg)
			done(t, what, api.Grammar{}, x, s, "", api.ErrArg)
		}
		for _, s := range []api.Step{remove(1), move(1, 2, 0), move(1, 1, 0), insert(1, 0, node(1)), insert(1, 0, node(0)), {}, {Op: 9}} {
			fails(t, what, x, s, api.ErrArg)
		}
	}
}

// P9.1: of inserts whose Sub has one node more, ErrArg, ahead of all other errors.
func TestSubTooMany(t *testing.T) {
	for what, sub := range tooGreat(1) {
		for _, s := range []api.Step{insert(77_777_777, 0, sub), insert(999_999, 0, sub), insert(999_999, 1, sub), insert(999_999, -1, sub)} {
			fails(t, what, node(999_999), s, api.ErrArg)
			fails(t, what, node(999_999, node(1)), s, api.ErrArg)
			done(t, what, lists(), node(999_999), s, "", api.ErrArg)
			done(t, what, api.Grammar{}, node(999_999), s, "", api.ErrArg)
		}
	}
	for what, sub := range tooGreat(1) {
		for _, s := range []api.Step{{Op: api.StDelete, Id: 2}, {Op: api.StMove, Id: 2, Parent: 3}, {Op: api.StText, Id: 2}, {Op: api.StText, Id: 9}, {Op: 7}} {
			s.Sub = sub
			fails(t, what+", one that the Op does not go by", small(), s, api.ErrArg)
		}
	}
	for what, sub := range map[string]api.Node{"side by side": fan(1, most), "one below the other": line(1, most), "a comb": comb(1, most/2)} {
		y, e := step.Apply(node(9999), insert(9999, 0, sub))
		if e != api.OK || !tree.Same(y, node(9999, sub)) {
			t.Errorf("%s: just as many: %v", what, e)
		}
		fails(t, what+": the last id may not be", node(9999), insert(9999, 0, raised(sub, api.MaxNumber-slices.Max(tree.Ids(sub))+1)), api.ErrArg)
		fails(t, what+": the last id is there", node(slices.Max(tree.Ids(sub))), insert(slices.Max(tree.Ids(sub)), 0, sub), api.ErrTwice)
		fails(t, what+": no Parent", node(9999), insert(9998, 0, sub), api.ErrNone)
	}
	fails(t, "the last of many ids of the tree", fan(1, most), insert(1, 0, node(most)), api.ErrTwice)
	fails(t, "the last of many ids of the tree, deep", line(1, most), insert(1, 0, node(most)), api.ErrTwice)
}

// loop gives a node that has itself below it, twice.
func loop() api.Node {
	kids := make([]api.Node, 2)
	kids[0], kids[1] = api.Node{Id: 1, Kids: kids}, api.Node{Id: 2, Kids: kids}
	return kids[0]
}

// P9.1, R1: nodes that have themselves below them have too many.
func TestLoops(t *testing.T) {
	for _, s := range append(each(2), api.Step{}) {
		fails(t, "a tree with itself below it", loop(), s, api.ErrArg)
		done(t, "a tree with itself below it", lists(), loop(), s, "", api.ErrArg)
	}
	fails(t, "a Sub with itself below it", node(9), insert(9, 0, loop()), api.ErrArg)
	if l := step.Ids(insert(9, 0, loop())); len(l) != 1+most {
		t.Error(len(l))
	}
}

// P9.2: of a Sub with very many nodes the first ones are told.
func TestIdsMost(t *testing.T) {
	for what, sub := range tooGreat(1) {
		all := append([]int{-7}, tree.Ids(sub)...)
		for count := range []int{most - 1, most, most + 1} {
			if l := step.Ids(insert(-7, count, sub)); !slices.Equal(l, all[:1+most]) {
				t.Errorf("%s: %d ids", what, len(l))
			}
		}
		for _, s := range []api.Step{{Op: api.StDelete, Id: 3, Sub: sub}, {Op: api.StText, Id: 3, Sub: sub}, {Id: 3, Sub: sub}} {
			if l := step.Ids(s); !slices.Equal(l, []int{3}) {
				t.Errorf("%s: the Op %d: %d ids", what, s.Op, len(l))
			}
		}
	}
	for _, count := range []int{1, 2, most - 1, most} {
		for what, sub := range map[string]api.Node{"side by side": fan(5, count), "one below the other": line(5, count)} {
			l := step.Ids(insert(4, 0, sub))
			if len(l) != 1+count || l[0] != 4 || l[count] != 4+count {
				t.Errorf("%s: %d: %d ids", what, count, len(l))
			}
		}
	}
	x := fan(1, most)
	x.Kids[most-2].Kids = []api.Node{node(-1)}
	if l := step.Ids(insert(0, 0, x)); len(l) != 1+most || l[most] != most {
		t.Error("the last one's kid is told:", len(l))
	}
}

// P9.2, R1: Same of subtrees that have very many nodes.
func TestSameMost(t *testing.T) {
	for what, sub := range tooGreat(1) {
		a, b := insert(1, 0, sub), insert(1, 0, tree.Copy(sub))
		if !step.Same(a, b) {
			t.Error(what, "not the same")
		}
		if step.Same(a, insert(1, 0, raised(node(1), 1))) || step.Same(a, insert(1, 0, fan(1, most))) {
			t.Error(what, "the same")
		}
		at := &b.Sub
		for len(at.Kids) > 0 {
			at = &at.Kids[len(at.Kids)-1]
		}
		at.Text = "x"
		if step.Same(a, b) {
			t.Error(what, "the last one's text counts for nothing")
		}
	}
}
