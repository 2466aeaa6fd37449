package undo_test

import (
	"math"
	"reflect"
	"slices"
	"testing"

	"allotment/api"
	"allotment/tree"
	"allotment/undo"
)

// roomy gives kids with room behind them, and something in it.
func roomy(kids ...api.Node) []api.Node {
	l := make([]api.Node, len(kids), len(kids)+3)
	copy(l, kids)
	for i := range l[len(l):cap(l)] {
		l[len(l):cap(l)][i] = api.Node{Id: 77, Text: "room"}
	}
	return l
}

// rich gives a tree with all that there can be, in memory of its own, with room behind the kids, where there are none, too: the id 5 stands twice, the deeper one ahead; 77 stands in the room alone.
func rich() api.Node {
	return api.Node{Id: 1, Kids: roomy(
		api.Node{Id: 2, Kind: 1, Text: "a", Kids: roomy(
			api.Node{Id: -4, Kind: -1, Text: "x\"y\\z"},
			api.Node{Id: 5, Kind: 3, Kids: roomy(api.Node{Id: 6, Kids: roomy()})})},
		api.Node{Id: 5, Kind: 4, Text: "late", Kids: roomy(api.Node{Id: 7})},
		api.Node{Id: math.MinInt, Kind: math.MaxInt, Kids: roomy()})}
}

// bough gives a subtree that may go into rich, in memory of its own, with room behind the kids.
func bough() api.Node {
	return api.Node{Id: 21, Kind: 2, Text: "b", Kids: roomy(
		api.Node{Id: 22, Kids: roomy(api.Node{Id: 23, Text: "c"})},
		api.Node{Id: 24, Kids: roomy()})}
}

// tries are steps on rich: of each Op such that go, and such that don't, and of Ops that are none; each with a Sub in memory of its own.
func tries() []api.Step {
	l := []api.Step{
		insert(1, 0, bough()), insert(1, 3, bough()), insert(2, 1, bough()), insert(6, 0, bough()), insert(5, 1, bough()),
		insert(9, 0, bough()), insert(1, 4, bough()), insert(1, 0, node(21, node(0))), insert(1, 3, node(6)), insert(77, 0, bough()),
		remove(2), remove(5), remove(6), remove(math.MinInt), remove(-4), remove(1), remove(9), remove(77),
		move(2, 1, 0), move(2, 1, 2), move(5, 1, 0), move(-4, 2, 1), move(-4, 2, 0), move(7, 6, 0), move(2, math.MinInt, 0),
		move(1, 2, 0), move(2, 5, 0), move(2, 1, 3), move(9, 1, 0), move(77, 1, 0), move(2, 77, 0),
		write(1, "new"), write(2, ""), write(2, "a"), write(5, "new"), write(-4, "x"), write(9, "x"), write(77, "x"),
		{Op: 0, Id: 2}, {Op: 5, Id: 2, Parent: 1}, {Op: -1, Id: 2}, {Op: api.StInsert, Parent: 1, Sub: api.Node{Id: 30, Kids: roomy()}},
	}
	for i := range l {
		if i%2 == 1 && l[i].Op != api.StInsert {
			l[i].Sub = bough() // that counts for nothing
		}
	}
	return l
}

// asWas tells whether two rows are the same, room included.
func asWas(a, b []api.Node) bool {
	return len(a) == len(b) && cap(a) == cap(b) && slices.EqualFunc(a[:cap(a)], b[:cap(b)], func(x, y api.Node) bool {
		return x.Id == y.Id && x.Kind == y.Kind && x.Text == y.Text && asWas(x.Kids, y.Kids)
	})
}

// untouched checks that a node is as it was, room included.
func untouched(t *testing.T, what string, x, want api.Node) {
	t.Helper()
	if !asWas([]api.Node{x}, []api.Node{want}) {
		t.Errorf("%s: what was handed in is changed: %v", what, x)
	}
}

// spoil writes over all memory that a node hands out, room included.
func spoil(x api.Node) {
	l := x.Kids[:cap(x.Kids)]
	for i := range l {
		spoil(l[i])
		l[i] = api.Node{Id: 99, Kind: 99, Text: "spoilt", Kids: []api.Node{{Id: 98}}}
	}
}

// R4: what was handed in is as it was, whatever is asked of it.
func TestUntouched(t *testing.T) {
	for i, s := range tries() {
		x := rich()
		undo.Invert(x, s)
		undo.Still(x, s)
		undo.Plain(s)
		untouched(t, "the tree", x, rich())
		want := tries()[i]
		untouched(t, "Sub", s.Sub, want.Sub)
		s.Sub, want.Sub = api.Node{}, api.Node{}
		if !reflect.DeepEqual(s, want) {
			t.Error("the step is changed:", s)
		}
	}
}

// P10.1, P10.2, R4: a step that is told is new memory: it shares none with the tree or the step that were handed in, nor with another answer.
func TestMemory(t *testing.T) {
	subs := 0
	for name, call := range map[string]func(api.Node, api.Step) api.Step{
		"Invert": func(x api.Node, s api.Step) api.Step {
			back, _ := undo.Invert(x, s)
			return back
		},
		"Plain": func(_ api.Node, s api.Step) api.Step { return undo.Plain(s) },
	} {
		for i, s := range tries() {
			want := call(rich(), tries()[i])
			x := rich()
			a, b := call(x, s), call(x, s)
			if len(a.Sub.Kids) > 0 {
				subs++
			}
			spoil(a.Sub)
			untouched(t, name, x, rich())
			untouched(t, name+", Sub", s.Sub, tries()[i].Sub)
			if !alike(b, want) {
				t.Errorf("%s: two answers share memory: %v", name, b)
			}
			spoil(x)
			spoil(s.Sub)
			if !alike(b, want) {
				t.Errorf("%s: the answer shares memory with what was handed in: %v", name, b)
			}
		}
	}
	if subs < 8 {
		t.Errorf("%d subtrees were told: that tells little", subs)
	}
}

// P10.1, P10.2, R4: kids that share memory are two in what is told.
func TestTwins(t *testing.T) {
	twin := node(2, node(3), node(4))
	both := node(7, twin, twin)
	back, e := undo.Invert(node(1, both), remove(7))
	if e != api.OK || !alike(back, insert(1, 0, both)) {
		t.Error(back, e)
	}
	for what, x := range map[string]api.Node{"Invert": back.Sub, "Plain": undo.Plain(insert(1, 0, both)).Sub} {
		x.Kids[1].Kids[0].Id = 9
		if x.Kids[0].Kids[0].Id != 3 || twin.Kids[0].Id != 3 {
			t.Error(what, "the twins share memory:", tree.Show(x))
		}
	}
}

// R3: the same call tells the same, whatever was called between.
func TestAgain(t *testing.T) {
	type answer struct {
		back, plain api.Step
		e           api.Errno
		still       bool
	}
	all := func() []answer {
		var l []answer
		for _, x := range []api.Node{rich(), row()} {
			for _, s := range tries() {
				a := answer{plain: undo.Plain(s), still: undo.Still(x, s)}
				a.back, a.e = undo.Invert(x, s)
				l = append(l, a)
			}
		}
		return l
	}
	if first := all(); !reflect.DeepEqual(first, all()) {
		t.Error("other answers")
	}
}
