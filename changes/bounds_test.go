package changes_test

import (
	"runtime/debug"
	"slices"
	"testing"

	"allotment/api"
	"allotment/changes"
	"allotment/tree"
)

// most is how many nodes a tree that steps work on may have.
const most = 10 * api.MaxNodes

// line gives nodes one below the other, from that id on.
func line(id, depth int) api.Node {
	x := node(id + depth - 1)
	for at := id + depth - 2; at >= id; at-- {
		x = node(at, x)
	}
	return x
}

// fan gives so many nodes, all but the first one side by side, from that id on.
func fan(id, count int) api.Node {
	x := node(id)
	for at := range count - 1 {
		x.Kids = append(x.Kids, node(id+1+at))
	}
	return x
}

// broad gives so many nodes, from that id on: three rows of kids, the rest below the last one of them.
func broad(id, count int) api.Node {
	third := count / 3
	return node(id, fan(id+1, third), fan(id+1+third, third), fan(id+1+2*third, count-1-2*third))
}

// shapes gives trees of so many nodes, from that id on.
func shapes(id, count int) map[string]api.Node {
	return map[string]api.Node{"side by side": fan(id, count), "one below the other": line(id, count), "broad": broad(id, count)}
}

// loop gives a node that has itself below it, twice.
func loop() api.Node {
	kids := make([]api.Node, 2)
	kids[0], kids[1] = api.Node{Id: 1, Kids: kids}, api.Node{Id: 2, Kids: kids}
	return kids[0]
}

// P11.1: how many nodes the inserted subtrees may have, in one step.
func TestCheckNodes(t *testing.T) {
	for _, count := range []int{5, api.MaxNodes - 1, api.MaxNodes} {
		for what, sub := range shapes(1, count) {
			if tree.Count(sub) != count {
				t.Fatal(what, count)
			}
			for _, l := range [][]api.Step{row(insert(1, 0, sub)), row(remove(1), insert(-7, -7, sub), api.Step{})} {
				if e := changes.Check(l); e != api.OK {
					t.Errorf("%s: %d nodes: %v", what, count, e)
				}
			}
		}
	}
	for _, count := range []int{api.MaxNodes + 1, api.MaxNodes + 2, most, most + 1, 1 << 16, 300_000} {
		for what, sub := range shapes(1, count) {
			tooLong(t, what, row(insert(1, 0, sub), write(1, "x")))
			tooLong(t, what, row(write(1, "x"), remove(99), insert(99, -1, sub)))
		}
	}
	tooLong(t, "one that has itself below it", row(insert(1, 0, loop()), write(1, "x")))
	tooLong(t, "one that has itself below it, last", row(write(1, "x"), insert(1, 0, loop())))
}

// P11.1: how many nodes the inserted subtrees may have together; ids count for nothing.
func TestCheckNodesTogether(t *testing.T) {
	zero := api.Node{} // a node, too
	for what, l := range map[string][]api.Step{
		"two":                    row(insert(1, 0, fan(1, 1)), insert(1, 0, line(1, api.MaxNodes-1))),
		"two halves":             row(insert(1, 0, fan(1, api.MaxNodes/2)), insert(1, 0, line(1, api.MaxNodes/2))),
		"with others between":    row(insert(1, 0, fan(1, 99)), remove(1), write(2, "x"), insert(1, 0, line(1, 101))),
		"what went counts still": row(insert(1, 0, fan(5, 150)), remove(5), insert(1, 0, fan(5, 50))),
		"as many as steps":       append(slices.Repeat(row(insert(1, 0, node(1, node(2), node(3)))), api.MaxSteps-1), insert(1, 0, fan(1, api.MaxNodes-3*(api.MaxSteps-1)))),
		"the greatest one first": append(row(insert(1, 0, fan(1, api.MaxNodes-api.MaxSteps+1))), slices.Repeat(row(insert(1, 0, zero)), api.MaxSteps-1)...),
	} {
		nodes := 0
		for _, s := range l {
			if s.Op == api.StInsert {
				nodes += tree.Count(s.Sub)
			}
		}
		if e := changes.Check(l); nodes != api.MaxNodes || e != api.OK {
			t.Errorf("%s: %d nodes: %v", what, nodes, e)
		}
		for at, s := range l {
			if s.Op != api.StInsert {
				continue
			}
			m := row(l...)
			m[at].Sub = node(1, s.Sub)
			tooLong(t, what+", one more", m)
		}
		if len(l) < api.MaxSteps {
			tooLong(t, what+", one more step", append(row(l...), insert(1, 0, zero)))
			tooLong(t, what+", one more step ahead", append(row(insert(1, 0, zero)), l...))
		}
	}
}

// P11.1: Subs of steps that insert nothing count for nothing.
func TestCheckSubs(t *testing.T) {
	for _, sub := range []api.Node{node(1), fan(1, api.MaxNodes+1), line(1, most+1), fan(1, 300_000), line(1, 300_000), loop()} {
		for op := -128; op < 128; op++ {
			if int8(op) == api.StInsert {
				continue
			}
			s := api.Step{Op: int8(op), Id: 2, Parent: 1, Sub: sub}
			for _, l := range [][]api.Step{row(s), row(insert(1, 0, fan(1, api.MaxNodes)), s), slices.Repeat(row(s), api.MaxSteps)} {
				if e := changes.Check(l); e != api.OK {
					t.Errorf("the Op %d: %v", op, e)
				}
			}
		}
	}
}

// P11.2, P11.3: a Sub that is too great keeps a step of any Op from going, in a joined row, too.
func TestSubsTooGreat(t *testing.T) {
	for _, sub := range []api.Node{fan(1, most+1), line(1, most+1), fan(1, 100_000)} {
		for _, s := range []api.Step{remove(4), move(4, 2, 0), write(4, "x")} {
			s.Sub = sub
			stuck(t, "a Sub that is too great", lists(), small(), row(write(2, "y"), s), 1, api.ErrArg)
			unturned(t, "a Sub that is too great", small(), row(write(2, "y"), s), api.ErrArg)
			joins(t, "a Sub that is too great", row(write(2, "y")), row(s))
			joinedGoes(t, lists(), small(), row(write(2, "y")), row(s))
			joinedGoes(t, lists(), small(), row(s), row(write(2, "y")))
		}
	}
	unturned(t, "a Sub that has itself below it", small(), row(api.Step{Op: api.StDelete, Id: 2, Sub: loop()}), api.ErrArg)
	stuck(t, "a Sub that has itself below it", lists(), small(), row(write(2, "y"), api.Step{Op: api.StDelete, Id: 2, Sub: loop()}), 1, api.ErrArg)
}

// P11.2, P11.4: trees of just MaxNodes nodes, and just MaxDepth deep, by rows of just MaxSteps steps.
func TestApplyMost(t *testing.T) {
	full := fan(1, api.MaxNodes-api.MaxSteps)
	var l []api.Step
	for at := range api.MaxSteps {
		l = append(l, insert(1, 0, node(1000+at)))
	}
	y, at, e := changes.Apply(lists(), full, l)
	if e != api.OK || at != api.MaxSteps || tree.Count(y) != api.MaxNodes || y.Kids[0].Id != 1000+api.MaxSteps-1 {
		t.Error(tree.Count(y), at, e)
	}
	back, e := changes.Invert(full, l)
	if e != api.OK {
		t.Error(e)
	}
	thereAndBack(t, "just MaxNodes nodes", full, l, back)
	full.Kids = append(full.Kids, node(999))
	stuck(t, "one more", lists(), full, l, api.MaxSteps-1, api.ErrForm)
	l = l[:0]
	for at := range api.MaxDepth - 1 {
		l = append(l, insert(1+at, 0, node(2+at)))
	}
	goes(t, "just MaxDepth deep", lists(), node(1), l, tree.Show(line(1, api.MaxDepth)))
	stuck(t, "one deeper", lists(), node(1), append(l, insert(api.MaxDepth, 0, node(99))), api.MaxDepth-1, api.ErrForm)
	whole := row(insert(1, 0, fan(2, api.MaxNodes-1)))
	goes(t, "all but the root", lists(), node(1), whole, tree.Show(node(1, fan(2, api.MaxNodes-1))))
	stuck(t, "all", lists(), node(1), row(insert(1, 0, fan(2, api.MaxNodes))), 0, api.ErrForm)
}

// P11.2, P11.3: trees that are too great for any step: as they were, in full.
func TestTreesTooGreat(t *testing.T) {
	for what, x := range shapes(1, most+1) {
		for _, l := range [][]api.Step{row(write(1, "x")), row(remove(99), api.Step{}), row(insert(1, 0, node(9999)), remove(9999))} {
			stuck(t, what, lists(), x, l, 0, api.ErrArg)
			unturned(t, what, x, l, api.ErrArg)
		}
	}
	for what, x := range shapes(1, most) {
		stuck(t, what+", just as many", lists(), x, row(remove(most), write(1, "x")), 0, api.ErrForm)
		turned(t, what+", just as many", x, row(write(1, "x"), move(most, 1, 0), write(2, "y")), row(write(2, ""), whence(x, most), write(1, "")))
		unturned(t, what+", too many behind an insert", x, row(insert(1, 0, node(9999)), write(1, "x")), api.ErrArg)
		unturned(t, what+", then none", x, row(write(1, "x"), insert(1, 0, node(9999)), write(77_777, "x")), api.ErrArg)
	}
	unturned(t, "one that has itself below it", loop(), row(write(1, "x")), api.ErrArg)
	beginnings(t, "one that has itself below it", lists(), loop(), row(write(1, "x")), 0)
}

// whence gives the move of the node of that id, not the root's, to where it stands in x.
func whence(x api.Node, id int) api.Step {
	for _, n := range tree.Walk(x) {
		if at := slices.IndexFunc(n.Kids, func(kid api.Node) bool { return kid.Id == id }); at >= 0 {
			return move(id, n.Id, at)
		}
	}
	return api.Step{}
}

// P11.1: of Subs with very many nodes those that step.Ids tells are named.
func TestIdsMost(t *testing.T) {
	for what, sub := range shapes(1, most+10) {
		all := append([]int{-7}, tree.Ids(sub)[:most]...)
		slices.Sort(all)
		if ids := changes.Ids(row(insert(-7, 0, sub), insert(-7, 1, sub))); !slices.Equal(ids, all) {
			t.Errorf("%s: %d ids", what, len(ids))
		}
		if ids := changes.Ids(row(write(3, ""), api.Step{Op: api.StDelete, Id: 2, Sub: sub})); !slices.Equal(ids, []int{2, 3}) {
			t.Errorf("%s: %d ids of a delete", what, len(ids))
		}
	}
	if ids := changes.Ids(row(insert(5, 0, loop()))); !slices.Equal(ids, []int{1, 5}) { // the first ones are one below the other
		t.Error("a Sub that has itself below it:", len(ids))
	}
}

// P11.1 to P11.3, R1: trees as deep as they are big, on a stack that doesn't bear as many calls.
func TestDeep(t *testing.T) {
	defer debug.SetMaxStack(debug.SetMaxStack(1 << 20))
	x := line(1, 100_000)
	if y, at, e := changes.Apply(lists(), x, nil); at != 0 || e != api.OK || !tree.Same(y, x) {
		t.Error(at, e)
	}
	if y, at, e := changes.Apply(lists(), x, row(write(1, "x"))); at != 0 || e != api.ErrArg || !tree.Same(y, x) {
		t.Error(at, e)
	}
	s := api.Step{Op: api.StDelete, Id: 2, Sub: x}
	if both, e := changes.Join(row(s), row(s)); e != api.OK || !allAlike(both, row(s, s)) {
		t.Error(len(both), e)
	}
	if !changes.Same(row(insert(1, 0, x)), row(insert(1, 0, tree.Copy(x)))) {
		t.Error("not the same")
	}
}
