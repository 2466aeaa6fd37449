package step_test

import (
	"math"
	"reflect"
	"slices"
	"strings"
	"testing"

	"allotment/api"
	"allotment/step"
	"allotment/tree"
)

// roomy gives kids with room behind them, and something in it.
func roomy(kids ...api.Node) []api.Node {
	l := make([]api.Node, len(kids), len(kids)+3)
	copy(l, kids)
	for i := range l[len(l):cap(l)] {
		l[len(l):cap(l)][i] = api.Node{Id: 77, Text: "room"}
	}
	return l
}

// rich gives a tree with all that there can be, in memory of its own, with room behind the kids: the id 5 stands twice, the deeper one ahead; 77 stands in the room alone.
func rich() api.Node {
	return api.Node{Id: 1, Kids: roomy(
		api.Node{Id: 2, Kind: 1, Text: "a", Kids: roomy(
			api.Node{Id: -4, Kind: -1, Text: "x\"y\\z"},
			api.Node{Id: 5, Kind: 3, Kids: roomy(api.Node{Id: 6, Kids: []api.Node{}})})},
		api.Node{Id: 5, Kind: 4, Text: "late", Kids: roomy(api.Node{Id: 7})},
		api.Node{Id: math.MinInt, Kind: math.MaxInt})}
}

// bough gives a subtree that may go into rich, in memory of its own, with room behind the kids.
func bough() api.Node {
	return api.Node{Id: 21, Kind: 2, Text: "b", Kids: roomy(
		api.Node{Id: 22, Kids: roomy(api.Node{Id: 23, Text: "c"})},
		api.Node{Id: 24, Kids: []api.Node{}})}
}

// tries are steps on rich: of each Op such that go, at its ends and in its midst, and such that don't.
func tries() []api.Step {
	l := []api.Step{
		insert(1, 0, bough()), insert(1, 2, bough()), insert(1, 3, bough()), insert(2, 1, bough()), insert(6, 0, bough()), insert(5, 1, bough()), insert(math.MinInt, 0, bough()),
		insert(9, 0, bough()), insert(1, 4, bough()), insert(1, 0, node(21, node(0))), insert(1, 0, node(21, node(21))), insert(1, 3, node(6)), insert(77, 0, bough()),
		remove(2), remove(5), remove(6), remove(math.MinInt), remove(-4), remove(1), remove(9), remove(77),
		move(2, 1, 0), move(2, 1, 2), move(5, 1, 0), move(5, 1, 3), move(-4, 2, 1), move(7, 6, 0), move(-4, 7, 0), move(2, math.MinInt, 0), move(math.MinInt, 5, 0),
		move(1, 2, 0), move(2, 5, 0), move(2, 2, 0), move(2, 1, 3), move(9, 1, 0), move(2, 9, 0), move(77, 1, 0), move(2, 77, 0),
		write(1, "new"), write(2, ""), write(5, "new"), write(-4, "x"), write(9, "x"), write(77, "x"),
		{Op: 0, Id: 2}, {Op: 5, Id: 2, Parent: 1}, {Op: -1, Id: 2},
	}
	for i := range l {
		l[i].Sub = tree.Copy(l[i].Sub)
		if i%2 == 1 && l[i].Op != api.StInsert {
			l[i].Sub = bough() // that counts for nothing
		}
	}
	return l
}

// asWas tells whether two rows are the same, room included.
func asWas(a, b []api.Node) bool {
	return len(a) == len(b) && cap(a) == cap(b) && slices.EqualFunc(a[:cap(a)], b[:cap(b)], func(x, y api.Node) bool {
		return x.Id == y.Id && x.Kind == y.Kind && x.Text == y.Text && asWas(x.Kids, y.Kids)
	})
}

// untouched checks that a node is as it was, room included.
func untouched(t *testing.T, what string, x, want api.Node) {
	t.Helper()
	if !asWas([]api.Node{x}, []api.Node{want}) {
		t.Errorf("%s: what was handed in is changed: %v", what, x)
	}
}

// spoil writes over all memory that a node hands out, room included.
func spoil(x api.Node) {
	l := x.Kids[:cap(x.Kids)]
	for i := range l {
		spoil(l[i])
		l[i] = api.Node{Id: 99, Kind: 99, Text: "spoilt", Kids: []api.Node{{Id: 98}}}
	}
}

// same checks that two trees are the same.
func same(t *testing.T, what string, x, want api.Node) {
	t.Helper()
	if !tree.Same(x, want) {
		t.Errorf("%s: %s; want %s", what, tree.Show(x), tree.Show(want))
	}
}

// anyKinds gives a grammar in which rich could be, but for its ids.
func anyKinds() api.Grammar {
	slot := func() []api.Slot { return []api.Slot{{Kinds: []int{0, 1, 2}, Most: 9}} }
	return api.Grammar{Kinds: []api.Kind{{Name: "a", Text: true, Slots: slot()}, {Name: "b", Text: true, Slots: slot()}, {Name: "c", Text: true, Slots: slot()}}}
}

// R4: what was handed in is as it was, whatever is asked of it.
func TestUntouched(t *testing.T) {
	for i, s := range tries() {
		x, g := rich(), anyKinds()
		step.Apply(x, s)
		step.Do(g, x, s)
		step.Target(s)
		step.Ids(s)
		for _, b := range tries() {
			step.Same(s, b)
		}
		untouched(t, "the tree", x, rich())
		want := tries()[i]
		untouched(t, "Sub", s.Sub, want.Sub)
		s.Sub, want.Sub = api.Node{}, api.Node{}
		if !reflect.DeepEqual(s, want) {
			t.Error("the step is changed:", s)
		}
		if !reflect.DeepEqual(g, anyKinds()) {
			t.Error("the grammar is changed:", g)
		}
	}
}

// answers are Apply's, and Do's of a grammar in which x conforms.
func answers() map[string]func(api.Node, api.Step) (api.Node, api.Errno) {
	return map[string]func(api.Node, api.Step) (api.Node, api.Errno){
		"Apply": step.Apply,
		"Do": func(x api.Node, s api.Step) (api.Node, api.Errno) {
			return step.Do(anyKinds(), x, s)
		},
	}
}

// good gives a tree that conforms to anyKinds, with room behind the kids.
func good() api.Node {
	return api.Node{Id: 1, Kids: roomy(
		api.Node{Id: 2, Kind: 1, Text: "a", Kids: roomy(api.Node{Id: 4, Text: "d"}, api.Node{Id: 5, Kind: 2, Kids: roomy(api.Node{Id: 6})})},
		api.Node{Id: 3, Kids: roomy(api.Node{Id: 7})},
		api.Node{Id: 8})}
}

// P9.1, P9.2, R4: a tree that is told is new memory: it shares none with the tree or the step that were handed in, nor with another answer.
func TestMemory(t *testing.T) {
	went := 0
	for name, call := range answers() {
		for _, made := range []func() api.Node{rich, good} {
			for i, s := range tries() {
				want, e := call(made(), tries()[i])
				x := made()
				a, _ := call(x, s)
				b, _ := call(x, s)
				if e == api.OK {
					went++
				}
				spoil(a)
				untouched(t, name, x, made())
				untouched(t, name+", Sub", s.Sub, tries()[i].Sub)
				same(t, name+" again", b, want)
				spoil(x)
				spoil(s.Sub)
				same(t, name+" again", b, want)
			}
		}
	}
	if went < 40 {
		t.Errorf("%d went: that tells little", went)
	}
}

// P9.1, R4: kids that share memory are two in what is told, and one of them alone is worked on.
func TestTwins(t *testing.T) {
	twin := node(2, node(3), node(4))
	for what, c := range map[string]struct {
		s    api.Step
		want string
	}{
		"insert": {insert(2, 2, node(5)), "1(2(3,4,5),2(3,4))"},
		"delete": {remove(3), "1(2(4),2(3,4))"},
		"move":   {move(4, 2, 0), "1(2(4,3),2(3,4))"},
		"apart":  {move(4, 1, 2), "1(2(3),2(3,4),4)"},
	} {
		x := node(1, twin, twin)
		y, e := step.Apply(x, c.s)
		if e != api.OK || shape(y) != c.want {
			t.Errorf("%s: %s, %v; want %s", what, shape(y), e, c.want)
		}
		y.Kids[1].Kids[0].Id = 9
		if strings.Count(shape(y), "9") != 1 {
			t.Errorf("%s: the twins share memory: %s", what, shape(y))
		}
		if shape(x) != "1(2(3,4),2(3,4))" {
			t.Errorf("%s: what was handed in is changed: %s", what, shape(x))
		}
	}
}

// P9.1, R4: what is inserted may share memory with the tree's own, room included.
func TestShared(t *testing.T) {
	x := rich()
	x.Kids[0].Kids = x.Kids[0].Kids[:1] // 5 stands once now, behind it there is room
	was := tree.Copy(x)
	sub := x.Kids[1].Kids[:2][1] // of the room
	y, e := step.Apply(x, insert(5, 1, sub))
	if e != api.OK || len(y.Kids[1].Kids) != 2 || y.Kids[1].Kids[1].Id != 77 {
		t.Error(tree.Show(y), e)
	}
	spoil(y)
	same(t, "what was handed in", x, was)
	kids := roomy(node(5, node(6)))
	y, e = step.Apply(api.Node{Id: 1, Kids: kids}, insert(1, 1, kids[:2][1]))
	if e != api.OK || shape(y) != `1(5(6),77"room")` {
		t.Error(shape(y), e)
	}
	spoil(y)
	if !asWas(kids, roomy(node(5, node(6)))) {
		t.Error("what was handed in is changed:", kids)
	}
}

// P9.2, R4: ids are new memory.
func TestIdsMemory(t *testing.T) {
	for i, s := range tries() {
		a, b := step.Ids(s), step.Ids(s)
		for k := range a[:cap(a)] {
			a[:cap(a)][k] = 99
		}
		if !slices.Equal(b, step.Ids(tries()[i])) {
			t.Error("two answers share memory:", b)
		}
	}
}

// R3: the same call tells the same, whatever was called between.
func TestAgain(t *testing.T) {
	type answer struct {
		applied, done api.Node
		e, doneE      api.Errno
		target        int
		ids           []int
	}
	all := func() []answer {
		var l []answer
		for _, x := range []api.Node{rich(), good()} {
			for _, s := range tries() {
				a := answer{target: step.Target(s), ids: step.Ids(s)}
				a.applied, a.e = step.Apply(x, s)
				a.done, a.doneE = step.Do(anyKinds(), x, s)
				l = append(l, a)
			}
		}
		return l
	}
	if first := all(); !reflect.DeepEqual(first, all()) {
		t.Error("other answers")
	}
}
