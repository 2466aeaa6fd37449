package changes_test

import (
	"reflect"
	"slices"
	"testing"

	"allotment/api"
	"allotment/changes"
	"allotment/tree"
)

// roomy gives kids with room behind them, and something in it.
func roomy(kids ...api.Node) []api.Node {
	l := make([]api.Node, len(kids), len(kids)+3)
	copy(l, kids)
	for i := range l[len(l):cap(l)] {
		l[len(l):cap(l)][i] = api.Node{Id: 77, Text: "room"}
	}
	return l
}

// roomyRow gives steps with room behind them, and something in it.
func roomyRow(steps ...api.Step) []api.Step {
	l := make([]api.Step, len(steps), len(steps)+3)
	copy(l, steps)
	for i := range l[len(l):cap(l)] {
		l[len(l):cap(l)][i] = api.Step{Op: api.StText, Id: 2, Text: "room"}
	}
	return l
}

// rich gives a tree that conforms to lists, in memory of its own, with room behind the kids, where there are none, too.
func rich() api.Node {
	return api.Node{Id: 1, Kids: roomy(
		api.Node{Id: 2, Text: "a", Kids: roomy(api.Node{Id: 4, Text: "d"}, api.Node{Id: 5, Kids: roomy(api.Node{Id: 6, Kids: roomy()})})},
		api.Node{Id: 3, Kids: roomy(api.Node{Id: 7})},
		api.Node{Id: 8, Kids: roomy()})}
}

// bough gives a subtree that may go into rich, from that id on, in memory of its own, with room behind the kids.
func bough(id int) api.Node {
	return api.Node{Id: id, Text: "b", Kids: roomy(
		api.Node{Id: id + 1, Kids: roomy(api.Node{Id: id + 2, Text: "c"})},
		api.Node{Id: id + 3, Kids: roomy()})}
}

// tries are rows for rich, in memory of their own: such that go, and such that don't, from their first, a middle, or their last step on; and such that are no change sets.
func tries() [][]api.Step {
	full := func() api.Step {
		return api.Step{Op: api.StDelete, Id: 5, Parent: 3, Place: 1, Text: "x", Sub: bough(61)}
	}
	return [][]api.Step{
		nil,
		roomyRow(),
		roomyRow(insert(1, 0, bough(21))),
		roomyRow(remove(2)),
		roomyRow(move(2, 3, 1), move(7, 6, 0)),
		roomyRow(write(5, "new"), full(), api.Step{Op: api.StText, Id: 4, Sub: bough(61)}, api.Step{Op: api.StMove, Id: 4, Parent: 8, Sub: bough(61)}),
		roomyRow(insert(1, 3, bough(21)), insert(23, 0, bough(31)), move(21, 2, 1), write(22, "n"), remove(2)),
		roomyRow(remove(2), insert(8, 0, bough(2)), remove(3), insert(2, 1, bough(31)), remove(8)),
		roomyRow(remove(9), write(2, "x")),
		roomyRow(insert(1, 0, bough(21)), insert(1, 1, bough(21)), remove(2)),
		roomyRow(remove(5), full()),
		roomyRow(insert(8, 0, bough(21)), write(4, "x"), api.Step{Op: 9, Sub: bough(61)}),
		roomyRow(insert(1, 0, fan(100, api.MaxNodes+1)), insert(1, 0, bough(21))),
		roomyRow(append(slices.Repeat(row(write(2, "x")), api.MaxSteps), insert(1, 0, bough(21)))...),
	}
}

// asWas tells whether two rows of nodes are the same, room included.
func asWas(a, b []api.Node) bool {
	return len(a) == len(b) && cap(a) == cap(b) && slices.EqualFunc(a[:cap(a)], b[:cap(b)], func(x, y api.Node) bool {
		return x.Id == y.Id && x.Kind == y.Kind && x.Text == y.Text && asWas(x.Kids, y.Kids)
	})
}

// untouched checks that a tree is as it was, room included.
func untouched(t *testing.T, what string, x, want api.Node) {
	t.Helper()
	if !asWas([]api.Node{x}, []api.Node{want}) {
		t.Errorf("%s: what was handed in is changed: %v", what, x)
	}
}

// untouchedRow checks that a row is as it was, room included.
func untouchedRow(t *testing.T, what string, l, want []api.Step) {
	t.Helper()
	same := len(l) == len(want) && cap(l) == cap(want) && slices.EqualFunc(l[:cap(l)], want[:cap(want)], func(a, b api.Step) bool {
		return alike(a, b) && asWas([]api.Node{a.Sub}, []api.Node{b.Sub})
	})
	if !same {
		t.Errorf("%s: what was handed in is changed: %v", what, l)
	}
}

// spoil writes over all memory that a node hands out, room included.
func spoil(x api.Node) {
	l := x.Kids[:cap(x.Kids)]
	for i := range l {
		spoil(l[i])
		l[i] = api.Node{Id: 99, Kind: 99, Text: "spoilt", Kids: []api.Node{{Id: 98}}}
	}
}

// spoilRow writes over all memory that a row hands out, room included.
func spoilRow(l []api.Step) {
	l = l[:cap(l)]
	for i := range l {
		spoil(l[i].Sub)
		l[i] = api.Step{Op: api.StInsert, Id: 99, Parent: 99, Place: 99, Text: "spoilt", Sub: node(99)}
	}
}

// spoilGrammar writes over all memory that a grammar hands out.
func spoilGrammar(g api.Grammar) {
	for i := range g.Kinds {
		for k := range g.Kinds[i].Slots {
			clear(g.Kinds[i].Slots[k].Kinds)
			g.Kinds[i].Slots[k] = api.Slot{Least: 9}
		}
		g.Kinds[i] = api.Kind{}
	}
}

// R4: what was handed in is as it was, room behind rows included, whatever is asked of it.
func TestUntouched(t *testing.T) {
	for i, l := range tries() {
		for k, m := range tries() {
			x, g := rich(), lists()
			changes.Check(l)
			changes.Apply(g, x, l)
			told(g, x, l)
			changes.Invert(x, l)
			changes.Join(l, m)
			changes.Join(l, l)
			changes.Join(l[:len(l)/2], m)
			changes.Same(l, m)
			changes.Ids(l)
			untouched(t, "the tree", x, rich())
			untouchedRow(t, "the row", l, tries()[i])
			untouchedRow(t, "the other row", m, tries()[k])
			if !reflect.DeepEqual(g, lists()) {
				t.Error("the grammar is changed:", g)
			}
		}
	}
}

// P11.2, R4: a tree that is told is new memory, of a row that goes, of one that does not, and of none.
func TestApplyMemory(t *testing.T) {
	for i := range tries() {
		for _, g := range []api.Grammar{lists(), {}} {
			want, wantAt, wantE := changes.Apply(g, rich(), tries()[i])
			x, l := rich(), tries()[i]
			a, _, _ := changes.Apply(g, x, l)
			b, at, e := changes.Apply(g, x, l)
			if at != wantAt || e != wantE {
				t.Error(at, e)
			}
			spoil(a)
			untouched(t, "Apply", x, rich())
			untouchedRow(t, "Apply", l, tries()[i])
			spoil(x)
			spoilRow(l)
			if !tree.Same(b, want) {
				t.Errorf("%d: the answer shares memory: %s; want %s", i, tree.Show(b), tree.Show(want))
			}
		}
	}
}

// P11.2, R4: trees that Each tells are new memory each time, and tell what there was when it was called.
func TestEachMemory(t *testing.T) {
	for i := range tries() {
		_, want := told(lists(), rich(), tries()[i])
		check := func(what string, at int, x api.Node) {
			t.Helper()
			if at >= len(want) || !tree.Same(x, want[at]) {
				t.Errorf("%d, %s: %d, %s", i, what, at, tree.Show(x))
			}
		}
		g, x, l := lists(), rich(), tries()[i]
		each := changes.Each(g, x, l)
		var kept []api.Node
		for at, y := range each { // spoilt while it is gone over
			check("as it comes", at, y)
			kept = append(kept, tree.Copy(y))
			spoil(y)
		}
		untouched(t, "Each", x, rich())
		untouchedRow(t, "Each", l, tries()[i])
		spoil(x)
		spoilRow(l)
		spoilGrammar(g)
		var trees []api.Node
		for at, y := range each {
			check("when what was handed in is spoilt", at, y)
			trees = append(trees, y)
		}
		for at := range trees { // each has its own
			spoil(trees[at])
			for other := at + 1; other < len(trees); other++ {
				check("when those ahead are spoilt", other, trees[other])
			}
		}
		if len(kept) != len(want) || len(trees) != len(want) {
			t.Errorf("%d: gone over %d and %d; want %d", i, len(kept), len(trees), len(want))
		}
	}
}

// P11.3, R4: rows that are told are new memory, and so are the subtrees in them, of steps of any Op.
func TestRowsMemory(t *testing.T) {
	subs := 0
	for name, call := range map[string]func(api.Node, []api.Step) []api.Step{
		"Invert": func(x api.Node, l []api.Step) []api.Step {
			back, _ := changes.Invert(x, l)
			return back
		},
		"Join": func(_ api.Node, l []api.Step) []api.Step {
			both, _ := changes.Join(l, l)
			return both
		},
		"Join, parts": func(_ api.Node, l []api.Step) []api.Step {
			both, _ := changes.Join(l[:len(l)/2], l[len(l)/2:])
			return both
		},
		"Join of none and one": func(_ api.Node, l []api.Step) []api.Step {
			both, _ := changes.Join(nil, l)
			return both
		},
		"Join of one and none": func(_ api.Node, l []api.Step) []api.Step {
			both, _ := changes.Join(l, l[:0])
			return both
		},
	} {
		for i, l := range tries() {
			want := call(rich(), tries()[i])
			x := rich()
			a, b := call(x, l), call(x, l)
			for at := range a {
				if len(a[at].Sub.Kids) > 0 {
					subs++
				}
				spoil(a[at].Sub) // one step's alone
				a[at].Sub = api.Node{}
				for other := at + 1; other < len(a); other++ {
					if !alike(a[other], want[other]) {
						t.Errorf("%s, %d: two steps share memory: %v", name, i, a[other])
					}
				}
			}
			spoilRow(a)
			untouched(t, name, x, rich())
			untouchedRow(t, name, l, tries()[i])
			spoil(x)
			spoilRow(l)
			if !allAlike(b, want) {
				t.Errorf("%s, %d: the answer shares memory: %v", name, i, b)
			}
		}
	}
	if subs < 30 {
		t.Errorf("%d subtrees were told: that tells little", subs)
	}
}

// P11.3, R4: rows that share memory with one another are two in what is told.
func TestJoinTwins(t *testing.T) {
	l := roomyRow(insert(1, 0, bough(21)), write(2, "a"))
	both, e := changes.Join(l, l)
	if e != api.OK || len(both) != 4 {
		t.Fatal(both, e)
	}
	spoil(both[0].Sub)
	if !tree.Same(both[2].Sub, bough(21)) {
		t.Error("the twins share memory:", tree.Show(both[2].Sub))
	}
	whole := roomyRow(write(2, "a"), write(2, "b"), write(2, "c"))
	both, e = changes.Join(whole[:1], whole[2:]) // there is room behind the first one
	if e != api.OK || !allAlike(both, row(write(2, "a"), write(2, "c"))) {
		t.Error(both, e)
	}
	untouchedRow(t, "Join", whole, roomyRow(write(2, "a"), write(2, "b"), write(2, "c")))
}

// P11.1, R4: ids are new memory.
func TestIdsMemory(t *testing.T) {
	for i, l := range tries() {
		a, b := changes.Ids(l), changes.Ids(l)
		for k := range a[:cap(a)] {
			a[:cap(a)][k] = 99
		}
		if !slices.Equal(b, changes.Ids(tries()[i])) {
			t.Error("two answers share memory:", b)
		}
	}
}

// R3: the same call tells the same, whatever was called between.
func TestAgain(t *testing.T) {
	type answer struct {
		e, applied, inverted, joined api.Errno
		at                           int
		out                          api.Node
		places, ids                  []int
		trees                        []api.Node
		back, both                   []api.Step
	}
	all := func() []answer {
		var l []answer
		for _, x := range []api.Node{rich(), small(), {}} {
			for _, s := range tries() {
				a := answer{e: changes.Check(s), ids: changes.Ids(s)}
				a.out, a.at, a.applied = changes.Apply(lists(), x, s)
				a.places, a.trees = told(lists(), x, s)
				a.back, a.inverted = changes.Invert(x, s)
				a.both, a.joined = changes.Join(s, s)
				l = append(l, a)
			}
		}
		return l
	}
	if first := all(); !reflect.DeepEqual(first, all()) {
		t.Error("other answers")
	}
}
