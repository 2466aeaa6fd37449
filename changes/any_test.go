package changes_test

import (
	"math/rand"
	"slices"
	"testing"

	"allotment/api"
	"allotment/changes"
	"allotment/step"
	"allotment/tree"
)

// anyTree gives some tree of kinds of which a node may have any below it, each id once, in some order.
func anyTree(r *rand.Rand, from, most int) api.Node {
	nodes, next := 1+r.Intn(most), 0
	ids := r.Perm(2 * most)
	var down func(depth int) api.Node
	down = func(depth int) api.Node {
		nodes--
		next++
		x := api.Node{Id: from + ids[next-1], Kind: r.Intn(3), Text: []string{"", "", "a", "bb"}[r.Intn(4)]}
		for nodes > 0 && depth < api.MaxDepth-2 && r.Intn(8) < 5 {
			x.Kids = append(x.Kids, down(depth+1))
		}
		return x
	}
	return down(1)
}

// anyKinds gives a grammar that lets such trees be whose root is of that kind, or, if they are to be fewer, some of them.
func anyKinds(root int, few bool) api.Grammar {
	g := api.Grammar{Root: root}
	for _, name := range []string{"a", "b", "c"} {
		slots := []api.Slot{{Kinds: []int{0, 1, 2}, Most: 20}}
		if few && name == "c" {
			slots = []api.Slot{{Kinds: []int{0}, Most: 3}, {Kinds: []int{2}, Most: 3}}
		}
		g.Kinds = append(g.Kinds, api.Kind{Name: name, Text: !few || name != "b", Slots: slots})
	}
	return g
}

// anyStep gives some step, mostly of ids of x and mostly one that goes, with all fields set.
func anyStep(r *rand.Rand, x api.Node) api.Step {
	ids := tree.Ids(x)
	id := func() int {
		if r.Intn(60) == 0 {
			return r.Intn(80) - 5
		}
		return ids[r.Intn(len(ids))]
	}
	s := api.Step{Op: int8(1 + r.Intn(4)), Id: id(), Parent: id(), Place: r.Intn(2), Text: []string{"", "a", "cc"}[r.Intn(3)], Sub: anyTree(r, 1000+100*r.Intn(20), 6)}
	switch r.Intn(40) {
	case 0:
		s.Op = int8(r.Intn(256))
	case 1, 2, 3:
		s.Op, s.Place, s.Sub = api.StInsert, 0, anyTree(r, 1, 6)
	case 4:
		s.Place = r.Intn(9) - 3
	case 5:
		s.Sub = anyTree(r, 5000, api.MaxNodes)
	}
	return s
}

// anyRow gives some row for x: most steps that do not go by themselves are left out.
func anyRow(r *rand.Rand, g api.Grammar, x api.Node) []api.Step {
	var l []api.Step
	for range r.Intn(r.Intn(api.MaxSteps+20) + 1) {
		s := anyStep(r, x)
		if y, e := step.Do(g, x, s); e == api.OK {
			x = y
		} else if r.Intn(40) > 0 {
			continue
		}
		l = append(l, s)
	}
	return l
}

// plainly tells by the chapter's words what the steps of a row come to, one behind the other: the trees ahead of and behind each that goes, and why the next one does not.
func plainly(g api.Grammar, x api.Node, l []api.Step) (trees []api.Node, e api.Errno) {
	trees = []api.Node{x}
	for _, s := range l {
		if x, e = step.Do(g, x, s); e != api.OK {
			return trees, e
		}
		trees = append(trees, x)
	}
	return trees, api.OK
}

// isSet tells by the chapter's words whether a row is a change set.
func isSet(l []api.Step) bool {
	nodes := 0
	for _, s := range l {
		if s.Op == api.StInsert {
			nodes += tree.Count(s.Sub)
		}
	}
	return len(l) <= api.MaxSteps && nodes <= api.MaxNodes
}

// named tells by the chapter's words which ids a row names.
func named(l []api.Step) []int {
	var ids []int
	for _, s := range l {
		ids = append(ids, step.Ids(s)...)
	}
	slices.Sort(ids)
	return slices.Compact(ids)
}

// anyCase is some grammar, a tree that mostly conforms, and a row for it.
func anyCase(r *rand.Rand) (api.Grammar, api.Node, []api.Step) {
	x := anyTree(r, 1, 30)
	g := anyKinds(x.Kind, r.Intn(2) == 0)
	if r.Intn(40) == 0 {
		g.Root = r.Intn(5) - 1
	}
	l := anyRow(r, g, x)
	if r.Intn(20) == 0 {
		l = slices.Repeat(l, 1+r.Intn(9)) // most are too long, or name again what went
	}
	return g, x, l
}

// P11.1, P11.2: of any trees and rows, what the chapter's words tell.
func TestAny(t *testing.T) {
	r := rand.New(rand.NewSource(11))
	told := map[api.Errno]int{}
	long := 0
	for range 6000 {
		g, x, l := anyCase(r)
		trees, e := plainly(g, x, l)
		want, place := trees[len(trees)-1], len(trees)-1
		if e != api.OK {
			want = x
		}
		if !isSet(l) {
			want, trees, place, e = api.Node{}, trees[:1], 0, api.ErrLong
		}
		y, at, is := changes.Apply(g, x, l)
		if is != e || at != place || !tree.Same(y, want) {
			t.Fatalf("%s, %v: %s, %d, %v; want %s, %d, %v", tree.Show(x), l, tree.Show(y), at, is, tree.Show(want), place, e)
		}
		next := 0
		for at, y := range changes.Each(g, x, l) {
			if next++; at != next-1 || next >= len(trees) || !tree.Same(y, trees[next]) {
				t.Fatalf("%s, %v: Each at %d: %s", tree.Show(x), l, at, tree.Show(y))
			}
		}
		if next != len(trees)-1 {
			t.Fatalf("%s, %v: Each goes over %d; want %d", tree.Show(x), l, next, len(trees)-1)
		}
		if (changes.Check(l) == api.OK) != isSet(l) || !slices.Equal(changes.Ids(l), named(l)) {
			t.Fatalf("%v: %v, %v", l, changes.Check(l), changes.Ids(l))
		}
		told[e]++
		if len(l) > 5 && e == api.OK {
			long++
		}
	}
	for _, e := range []api.Errno{api.OK, api.ErrLong, api.ErrArg, api.ErrNone, api.ErrTwice, api.ErrForm, api.ErrLoop} {
		if told[e] < 20 {
			t.Errorf("%d rows told %v: that tells little", told[e], e)
		}
	}
	if long < 500 {
		t.Errorf("%d long rows went: that tells little", long)
	}
}

// P11.3, P11.4: of any trees and rows, undo's error, or a row that goes back; and two rows joined.
func TestBackAny(t *testing.T) {
	r := rand.New(rand.NewSource(114))
	went, steps, not, together := 0, 0, 0, 0
	for range 4000 {
		g, x, l := anyCase(r)
		want := api.OK
		for y, at := x, 0; at < len(l) && want == api.OK; at++ {
			y, want = step.Apply(y, l[at])
		}
		if !isSet(l) {
			want = api.ErrLong
		}
		back, e := changes.Invert(x, l)
		if e != want || e != api.OK && len(back) > 0 {
			t.Fatalf("%s, %v: %v, %v; want %v", tree.Show(x), l, back, e, want)
		}
		if e == api.OK {
			thereAndBack(t, "any", x, l, back)
			went, steps = went+1, steps+len(l)
		} else {
			not++
		}
		trees, _ := plainly(g, x, l)
		m := anyRow(r, g, trees[len(trees)-1])
		both, e := changes.Join(l, m)
		if (e == api.OK) != isSet(slices.Concat(l, m)) || e == api.OK && !allAlike(both, slices.Concat(l, m)) || e != api.OK && (e != api.ErrLong || len(both) > 0) {
			t.Fatalf("%v, %v: %v, %v", l, m, both, e)
		}
		if e == api.OK {
			joinedGoes(t, g, x, l, m)
			together++
		}
	}
	if went < 1500 || steps < 6*went || not < 500 || together < 1500 {
		t.Errorf("%d went, of %d steps, %d did not, %d were joined: that tells little", went, steps, not, together)
	}
}
