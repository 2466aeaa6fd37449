package step_test

import (
	"math/rand"
	"slices"
	"testing"

	"allotment/api"
	"allotment/conform"
	"allotment/step"
	"allotment/tree"
)

// ref is a node that knows its parent: steps are done on these by the chapter's words, in their own memory.
type ref struct {
	id, kind int
	text     string
	up       *ref
	kids     []*ref
}

// refer gives x as refs.
func refer(x api.Node, up *ref) *ref {
	n := &ref{id: x.Id, kind: x.Kind, text: x.Text, up: up}
	for _, kid := range x.Kids {
		n.kids = append(n.kids, refer(kid, n))
	}
	return n
}

// back gives the node that n is.
func (n *ref) back() api.Node {
	x := api.Node{Id: n.id, Kind: n.kind, Text: n.text}
	for _, kid := range n.kids {
		x.Kids = append(x.Kids, kid.back())
	}
	return x
}

// all gives n and all below it, in the walk.
func (n *ref) all() []*ref {
	l := []*ref{n}
	for _, kid := range n.kids {
		l = append(l, kid.all()...)
	}
	return l
}

// find gives the first node of that id, or nil.
func (n *ref) find(id int) *ref {
	for _, m := range n.all() {
		if m.id == id {
			return m
		}
	}
	return nil
}

// leave takes n out from below its parent.
func (n *ref) leave() {
	n.up.kids = slices.DeleteFunc(n.up.kids, func(m *ref) bool { return m == n })
	n.up = nil
}

// enter puts n below up.
func (n *ref) enter(up *ref, place int) {
	up.kids = slices.Insert(up.kids, place, n)
	n.up = up
}

// plainly tells by the chapter's words what Apply has to, of trees that are small.
func plainly(x api.Node, s api.Step) (api.Node, api.Errno) {
	root := refer(x, nil)
	id, parent := root.find(s.Id), root.find(s.Parent)
	e := api.ErrArg
	switch s.Op {
	case api.StInsert:
		if e = plainInsert(root, parent, s); e == api.OK {
			refer(s.Sub, nil).enter(parent, s.Place)
		}
	case api.StDelete:
		if e = plainDelete(id); e == api.OK {
			id.leave()
		}
	case api.StMove:
		if e = plainMove(id, parent, s.Place); e == api.OK {
			id.leave()
			id.enter(parent, s.Place)
		}
	case api.StText:
		if e = api.ErrNone; id != nil {
			id.text, e = s.Text, api.OK
		}
	}
	if e != api.OK {
		return api.Node{}, e
	}
	return root.back(), api.OK
}

func plainInsert(root, parent *ref, s api.Step) api.Errno {
	if parent == nil {
		return api.ErrNone
	}
	if s.Place < 0 || s.Place > len(parent.kids) {
		return api.ErrArg
	}
	sub := tree.Ids(s.Sub)
	for _, id := range sub {
		if id < 1 || id > api.MaxNumber {
			return api.ErrArg
		}
	}
	for at, id := range sub {
		if root.find(id) != nil || slices.Contains(sub[:at], id) {
			return api.ErrTwice
		}
	}
	return api.OK
}

func plainDelete(id *ref) api.Errno {
	if id == nil {
		return api.ErrNone
	}
	if id.up == nil {
		return api.ErrRoot
	}
	return api.OK
}

func plainMove(id, parent *ref, place int) api.Errno {
	if id == nil || parent == nil {
		return api.ErrNone
	}
	if id.up == nil {
		return api.ErrRoot
	}
	if slices.Contains(id.all(), parent) {
		return api.ErrLoop
	}
	most := len(parent.kids)
	if id.up == parent {
		most--
	}
	if place < 0 || place > most {
		return api.ErrArg
	}
	return api.OK
}

// anyTree gives some tree of at most so many nodes, with those ids.
func anyTree(r *rand.Rand, nodes *int, id func() int) api.Node {
	*nodes--
	x := api.Node{Id: id(), Kind: r.Intn(5) - 1, Text: []string{"", "", "a", "),("}[r.Intn(4)]}
	for *nodes > 0 && r.Intn(8) < 5 {
		x.Kids = append(x.Kids, anyTree(r, nodes, id))
	}
	return x
}

// once gives some tree, each id once, from 1 on.
func once(r *rand.Rand, most int) api.Node {
	nodes, next := 1+r.Intn(most), 0
	ids := r.Perm(2 * most)
	return anyTree(r, &nodes, func() int { next++; return 1 + ids[next] })
}

// many gives some tree in which ids may stand more than once, and such that may not be.
func many(r *rand.Rand, most int) api.Node {
	nodes, ids := 1+r.Intn(most), 2+r.Intn(most)
	return anyTree(r, &nodes, func() int { return r.Intn(ids) - 1 })
}

// anyStep gives some step, mostly of ids of x, with subtrees from sub.
func anyStep(r *rand.Rand, x api.Node, sub func() api.Node) api.Step {
	ids := tree.Ids(x)
	id := func() int {
		if r.Intn(20) == 0 {
			return r.Intn(60) - 5
		}
		return ids[r.Intn(len(ids))]
	}
	s := api.Step{Op: int8(1 + r.Intn(4)), Id: id(), Parent: id(), Place: r.Intn(5) - 1, Text: []string{"", "b", "cc"}[r.Intn(3)]}
	if r.Intn(50) == 0 {
		s.Op = int8(r.Intn(256))
	}
	if s.Op == api.StInsert || r.Intn(10) == 0 {
		s.Sub = sub()
	}
	return s
}

// raised gives x with its ids so much greater.
func raised(x api.Node, by int) api.Node {
	x = tree.Copy(x)
	x.Id += by
	for i := range x.Kids {
		x.Kids[i] = raised(x.Kids[i], by)
	}
	return x
}

// anySub gives a maker of subtrees: most go into trees of once, some don't.
func anySub(r *rand.Rand) func() api.Node {
	return func() api.Node {
		switch r.Intn(6) {
		case 0:
			return many(r, 6)
		case 1:
			return once(r, 6)
		}
		return raised(once(r, 6), 1000)
	}
}

// P9.1: of any trees and steps, what the chapter's words tell.
func TestAny(t *testing.T) {
	r := rand.New(rand.NewSource(9))
	told := map[int8]map[api.Errno]int{}
	for at := range 40_000 {
		x := once(r, 20)
		if at%2 == 0 {
			x = many(r, 20)
		}
		s := anyStep(r, x, anySub(r))
		y, e := step.Apply(x, s)
		want, wantE := plainly(x, s)
		if e != wantE || !tree.Same(y, want) {
			t.Fatalf("%s, %v: %s, %v; want %s, %v", tree.Show(x), s, tree.Show(y), e, tree.Show(want), wantE)
		}
		if told[s.Op] == nil {
			told[s.Op] = map[api.Errno]int{}
		}
		told[s.Op][e]++
	}
	for op, errors := range map[int8][]api.Errno{
		api.StInsert: {api.OK, api.ErrNone, api.ErrArg, api.ErrTwice},
		api.StDelete: {api.OK, api.ErrNone, api.ErrRoot},
		api.StMove:   {api.OK, api.ErrNone, api.ErrRoot, api.ErrLoop, api.ErrArg},
		api.StText:   {api.OK, api.ErrNone},
	} {
		for _, e := range errors {
			if told[op][e] < 200 {
				t.Errorf("%d steps of the Op %d told %v: that tells little", told[op][e], op, e)
			}
		}
	}
}

// alone are a tree's nodes without their kids, by their ids.
func alone(x api.Node) map[int]api.Node {
	m := map[int]api.Node{}
	for _, n := range refer(x, nil).all() {
		m[n.id] = api.Node{Id: n.id, Kind: n.kind, Text: n.text}
	}
	return m
}

// under are the ids of the first node of that id, and of all below it.
func under(x api.Node, id int) []int {
	y, _ := tree.Find(x, id)
	return tree.Ids(y)
}

// behind gives by P9.3 the ids that are to be there behind a step that went, rising.
func behind(x api.Node, s api.Step) []int {
	l := tree.Ids(x)
	switch s.Op {
	case api.StInsert:
		l = append(l, tree.Ids(s.Sub)...)
	case api.StDelete:
		gone := under(x, s.Id)
		l = slices.DeleteFunc(l, func(id int) bool { return slices.Contains(gone, id) })
	}
	slices.Sort(l)
	return l
}

// P9.3: a step leaves all nodes that it does not name as they are but for their kids; ids are those that were, with the inserted, without the deleted ones.
func TestFollows(t *testing.T) {
	r := rand.New(rand.NewSource(93))
	went := 0
	for range 20_000 {
		x := once(r, 20)
		s := anyStep(r, x, anySub(r))
		y, e := step.Apply(x, s)
		if e != api.OK {
			continue
		}
		went++
		ids := slices.Sorted(slices.Values(tree.Ids(y)))
		if !slices.Equal(ids, behind(x, s)) {
			t.Errorf("%s, %v: %s", tree.Show(x), s, tree.Show(y))
		}
		named, was, is := step.Ids(s), alone(x), alone(y)
		for id, n := range was {
			if m, there := is[id]; there && !slices.Contains(named, id) && !tree.Same(n, m) {
				t.Errorf("%s, %v: %d is another one in %s", tree.Show(x), s, id, tree.Show(y))
			}
		}
		stand(t, x, s, y)
	}
	if went < 8000 {
		t.Errorf("%d of 20000 went: that tells little", went)
	}
}

// stand checks by P9.3 that the kids of each node, but for those that came or went, are those that were, in their order.
func stand(t *testing.T, x api.Node, s api.Step, y api.Node) {
	t.Helper()
	moved := []int{s.Id}
	switch s.Op {
	case api.StInsert:
		moved = []int{s.Sub.Id}
	case api.StText:
		moved = nil
	}
	kids := func(n *ref) []int {
		var l []int
		for _, kid := range n.kids {
			if !slices.Contains(moved, kid.id) {
				l = append(l, kid.id)
			}
		}
		return l
	}
	was := refer(x, nil)
	for _, n := range refer(y, nil).all() {
		m := was.find(n.id)
		if m == nil {
			continue // it was inserted
		}
		if !slices.Equal(kids(m), kids(n)) {
			t.Errorf("%s, %v: other kids of %d in %s", tree.Show(x), s, n.id, tree.Show(y))
		}
	}
}

// P9.2, P9.3: Do tells what Apply does, if it conforms; else why not.
func TestDoAny(t *testing.T) {
	r := rand.New(rand.NewSource(92))
	went, not := 0, 0
	for at := range 20_000 {
		x := planted()
		for range r.Intn(6) {
			if y, e := step.Apply(x, anyStep(r, x, bedded(r))); e == api.OK && at%3 > 0 {
				x = y
			}
		}
		s := anyStep(r, x, bedded(r))
		want, e := step.Apply(x, s)
		if e == api.OK {
			_, e = conform.Tree(own(), want)
		}
		y, is := step.Do(own(), x, s)
		if is != e {
			t.Fatalf("%s, %v: %v; want %v", tree.Show(x), s, is, e)
		}
		if e != api.OK {
			zero(t, "Do", y)
			not++
			continue
		}
		went++
		if at, e := conform.Tree(own(), y); e != api.OK || !tree.Same(y, want) {
			t.Fatalf("%s, %v: %s does not conform at %d: %v", tree.Show(x), s, tree.Show(y), at, e)
		}
	}
	if went < 2000 || not < 2000 {
		t.Errorf("%d went, %d did not: that tells little", went, not)
	}
}

// bedded gives a maker of beds, with a plant or without.
func bedded(r *rand.Rand) func() api.Node {
	return func() api.Node {
		id := 10 + r.Intn(40)
		if r.Intn(4) == 0 {
			return of(bed, id)
		}
		return of(bed, id, of(plant, id+100))
	}
}
