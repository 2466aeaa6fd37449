package undo_test

import (
	"math/rand"
	"testing"

	"allotment/api"
	"allotment/step"
	"allotment/tree"
	"allotment/undo"
)

// standing is a node, and where it stands.
type standing struct {
	node          api.Node
	parent, place int
}

// find gives the first node of that id in x, which stands there, and where it stands.
func find(x api.Node, parent, place, id int) (standing, bool) {
	if x.Id == id {
		return standing{x, parent, place}, true
	}
	for at, kid := range x.Kids {
		if s, ok := find(kid, x.Id, at, id); ok {
			return s, true
		}
	}
	return standing{}, false
}

// first gives the first node of that id in x, and where it stands.
func first(x api.Node, id int) standing {
	s, _ := find(x, 0, 0, id)
	return s
}

// plainly tells by the chapter's words the inverse of a step that goes.
func plainly(x api.Node, s api.Step) api.Step {
	at := first(x, s.Id)
	switch s.Op {
	case api.StInsert:
		return remove(s.Sub.Id)
	case api.StDelete:
		return insert(at.parent, at.place, at.node)
	case api.StMove:
		return move(s.Id, at.parent, at.place)
	}
	return write(s.Id, at.node.Text)
}

// asItIs tells whether two trees are the same.
func asItIs(a, b api.Node) bool {
	if a.Id != b.Id || a.Kind != b.Kind || a.Text != b.Text || len(a.Kids) != len(b.Kids) {
		return false
	}
	for i := range a.Kids {
		if !asItIs(a.Kids[i], b.Kids[i]) {
			return false
		}
	}
	return true
}

// anyTree gives some tree of at most so many nodes, with those ids.
func anyTree(r *rand.Rand, nodes *int, id func() int) api.Node {
	*nodes--
	x := api.Node{Id: id(), Kind: r.Intn(5) - 1, Text: []string{"", "", "a", "),("}[r.Intn(4)]}
	for *nodes > 0 && r.Intn(8) < 5 {
		x.Kids = append(x.Kids, anyTree(r, nodes, id))
	}
	return x
}

// once gives some tree, each id once, from that one on.
func once(r *rand.Rand, from, most int) api.Node {
	nodes, next := 1+r.Intn(most), 0
	ids := r.Perm(2 * most)
	return anyTree(r, &nodes, func() int { next++; return from + ids[next-1] })
}

// many gives some tree in which ids may stand more than once, and such that may not be.
func many(r *rand.Rand, most int) api.Node {
	nodes, ids := 1+r.Intn(most), 2+r.Intn(most)
	return anyTree(r, &nodes, func() int { return r.Intn(ids) - 1 })
}

// anySub gives some subtree: most go into trees of once, some don't.
func anySub(r *rand.Rand) api.Node {
	switch r.Intn(6) {
	case 0:
		return many(r, 6)
	case 1:
		return once(r, 1, 6)
	case 2:
		return once(r, api.MaxNumber-11, 6)
	}
	return once(r, 1000, 6)
}

// anyStep gives some step, mostly of ids of x, with all fields set.
func anyStep(r *rand.Rand, x api.Node) api.Step {
	ids := tree.Ids(x)
	id := func() int {
		if r.Intn(20) == 0 {
			return r.Intn(60) - 5
		}
		return ids[r.Intn(len(ids))]
	}
	s := api.Step{Op: int8(1 + r.Intn(4)), Id: id(), Parent: id(), Place: r.Intn(5) - 1, Text: []string{"", "a", "cc"}[r.Intn(3)], Sub: anySub(r)}
	if r.Intn(50) == 0 {
		s.Op = int8(r.Intn(256))
	}
	if at := first(x, s.Id); r.Intn(10) == 0 && at.node.Id == s.Id {
		s.Parent, s.Place = at.parent, at.place
	}
	return s
}

// tally counts what was told of the steps of each Op.
type tally map[int8]map[string]int

func (c tally) add(op int8, what string) {
	if c[op] == nil {
		c[op] = map[string]int{}
	}
	c[op][what]++
}

// enough checks that each of these was told often.
func (c tally) enough(t *testing.T, least int, op int8, whats ...string) {
	t.Helper()
	for _, what := range whats {
		if c[op][what] < least {
			t.Errorf("%d steps of the Op %d told %s: that tells little", c[op][what], op, what)
		}
	}
}

// P10.1: of any trees and steps, step.Apply's error, or what the chapter's words tell; and whether the tree is left as it is.
func TestAny(t *testing.T) {
	r := rand.New(rand.NewSource(10))
	told := tally{}
	for at := range 40_000 {
		x := once(r, 1, 20)
		if at%2 == 0 {
			x = many(r, 20)
		}
		s := anyStep(r, x)
		y, wantE := step.Apply(x, s)
		want := api.Step{}
		if wantE == api.OK {
			want = plainly(x, s)
		}
		if back, e := undo.Invert(x, s); e != wantE || !alike(back, want) {
			t.Fatalf("%s, %v: %v, %v; want %v, %v", tree.Show(x), s, back, e, want, wantE)
		}
		still := wantE == api.OK && asItIs(x, y)
		if undo.Still(x, s) != still {
			t.Fatalf("%s, %v: still %t; want %t", tree.Show(x), s, !still, still)
		}
		told.add(s.Op, wantE.Error())
		if still {
			told.add(s.Op, "still")
		}
	}
	ok, arg, none, root := api.OK.Error(), api.ErrArg.Error(), api.ErrNone.Error(), api.ErrRoot.Error()
	told.enough(t, 200, api.StInsert, ok, arg, none, api.ErrTwice.Error())
	told.enough(t, 200, api.StDelete, ok, none, root)
	told.enough(t, 200, api.StMove, ok, none, root, api.ErrLoop.Error(), arg, "still")
	told.enough(t, 200, api.StText, ok, none, "still")
}

// P10.3: of trees whose ids are all different, from 1 to MaxNumber, the inverse goes on what came and comes back; the inverse's inverse does what the step did.
func TestBackAny(t *testing.T) {
	r := rand.New(rand.NewSource(103))
	told := tally{}
	for at := range 20_000 {
		x := once(r, 1, 20)
		if at%5 == 0 {
			x = once(r, api.MaxNumber-39, 20)
		}
		s := anyStep(r, x)
		y, e := step.Apply(x, s)
		if e != api.OK {
			continue
		}
		back, e := undo.Invert(x, s)
		if e != api.OK {
			t.Fatalf("%s, %v: %v", tree.Show(x), s, e)
		}
		thereAndBack(t, "any", x, y, back)
		again, e := undo.Invert(y, back)
		if e != api.OK || !alike(again, undo.Plain(s)) {
			t.Fatalf("%s, %v: the inverse's inverse is %v, %v", tree.Show(x), s, again, e)
		}
		told.add(s.Op, "back")
	}
	for op := api.StInsert; op <= api.StText; op++ {
		told.enough(t, 400, op, "back")
	}
}

// P10.3: rows of steps are taken back one by one, the last one first.
func TestRows(t *testing.T) {
	r := rand.New(rand.NewSource(104))
	went := 0
	for range 500 {
		trees, backs := []api.Node{once(r, 1, 20)}, []api.Step{}
		for range 30 {
			x := trees[len(trees)-1]
			s := anyStep(r, x)
			back, e := undo.Invert(x, s)
			if e != api.OK {
				continue
			}
			y, _ := step.Apply(x, s)
			trees, backs = append(trees, y), append(backs, back)
		}
		went += len(backs)
		x := trees[len(backs)]
		for at := len(backs) - 1; at >= 0; at-- {
			y, e := step.Apply(x, backs[at])
			if e != api.OK || !asItIs(y, trees[at]) {
				t.Fatalf("%s, %v: %s, %v; want %s", tree.Show(x), backs[at], tree.Show(y), e, tree.Show(trees[at]))
			}
			x = y
		}
	}
	if went < 5000 {
		t.Errorf("%d steps went: that tells little", went)
	}
}
