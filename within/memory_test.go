package within_test

import (
	"reflect"
	"slices"
	"sync"
	"testing"

	"allotment/api"
	"allotment/tree"
	"allotment/within"
)

// roomy gives kids with room behind them, and something in it.
func roomy(kids ...api.Node) []api.Node {
	l := make([]api.Node, len(kids), len(kids)+3)
	copy(l, kids)
	for i := range l[len(l):cap(l)] {
		l[len(l):cap(l)][i] = api.Node{Id: 77, Text: "room"}
	}
	return l
}

// roomyRow gives steps with room behind them, and something in it.
func roomyRow(steps ...api.Step) []api.Step {
	l := make([]api.Step, len(steps), len(steps)+3)
	copy(l, steps)
	for i := range l[len(l):cap(l)] {
		l[len(l):cap(l)][i] = api.Step{Op: api.StText, Id: 2, Text: "room"}
	}
	return l
}

// rich gives a tree that conforms to lists, in memory of its own, with room behind the kids, where there are none, too.
func rich() api.Node {
	return api.Node{Id: 1, Kids: roomy(
		api.Node{Id: 8, Kids: roomy()},
		api.Node{Id: 2, Text: "a", Kids: roomy(api.Node{Id: 4, Text: "d"}, api.Node{Id: 5, Kids: roomy(api.Node{Id: 6, Kids: roomy()})})},
		api.Node{Id: 3, Kids: roomy(api.Node{Id: 7})})}
}

// bough gives a subtree that may go into rich, from that id on, in memory of its own, with room behind the kids.
func bough(id int) api.Node {
	return api.Node{Id: id, Text: "b", Kids: roomy(
		api.Node{Id: id + 1, Kids: roomy(api.Node{Id: id + 2, Text: "c"})},
		api.Node{Id: id + 3, Kids: roomy()})}
}

// tries are rows for rich and its node 2, in memory of their own: such that are inside, such that are not or do not go from a step on, and such that are no change sets.
func tries() [][]api.Step {
	full := func(op int8) api.Step {
		return api.Step{Op: op, Id: 5, Parent: 4, Place: 0, Text: "x", Sub: bough(61)}
	}
	return [][]api.Step{
		nil,
		roomyRow(),
		roomyRow(insert(2, 0, bough(21))),
		roomyRow(remove(5)),
		roomyRow(move(6, 2, 1), write(2, "new")),
		roomyRow(full(api.StText), full(api.StMove), full(api.StInsert), full(api.StDelete)),
		roomyRow(insert(2, 2, bough(21)), insert(23, 0, bough(31)), move(21, 5, 1), write(22, "n"), remove(5)),
		roomyRow(remove(5), insert(2, 0, bough(4)), remove(4)),
		roomyRow(write(2, "x"), remove(2)),
		roomyRow(insert(2, 0, bough(21)), insert(1, 0, bough(31)), remove(9)),
		roomyRow(full(api.StDelete), full(api.StDelete)),
		roomyRow(insert(2, 0, bough(21)), insert(2, 1, bough(21))),
		roomyRow(insert(2, 0, bough(21)), full(9), full(0)),
		roomyRow(insert(2, 0, fan(100, api.MaxNodes+1)), insert(2, 0, bough(21))),
		roomyRow(append(slices.Repeat(row(write(2, "x")), api.MaxSteps), insert(2, 0, bough(21)))...),
	}
}

// asWas tells whether two rows of nodes are the same, room included.
func asWas(a, b []api.Node) bool {
	return len(a) == len(b) && cap(a) == cap(b) && slices.EqualFunc(a[:cap(a)], b[:cap(b)], func(x, y api.Node) bool {
		return x.Id == y.Id && x.Kind == y.Kind && x.Text == y.Text && asWas(x.Kids, y.Kids)
	})
}

// untouched checks that a tree is as it was, room included.
func untouched(t *testing.T, what string, x, want api.Node) {
	t.Helper()
	if !asWas([]api.Node{x}, []api.Node{want}) {
		t.Errorf("%s: what was handed in is changed: %v", what, x)
	}
}

// untouchedRow checks that a row is as it was, room included.
func untouchedRow(t *testing.T, what string, l, want []api.Step) {
	t.Helper()
	same := len(l) == len(want) && cap(l) == cap(want) && slices.EqualFunc(l[:cap(l)], want[:cap(want)], func(a, b api.Step) bool {
		return a.Op == b.Op && a.Id == b.Id && a.Parent == b.Parent && a.Place == b.Place && a.Text == b.Text && asWas([]api.Node{a.Sub}, []api.Node{b.Sub})
	})
	if !same {
		t.Errorf("%s: what was handed in is changed: %v", what, l)
	}
}

// spoil writes over all memory that a node hands out, room included.
func spoil(x api.Node) {
	l := x.Kids[:cap(x.Kids)]
	for i := range l {
		spoil(l[i])
		l[i] = api.Node{Id: 99, Kind: 99, Text: "spoilt", Kids: []api.Node{{Id: 98}}}
	}
}

// R4: what was handed in is as it was, room behind rows included, whatever is asked of it.
func TestUntouched(t *testing.T) {
	for i, l := range tries() {
		for _, root := range []int{1, 2, 4, 9} {
			x, g := rich(), lists()
			within.All(g, x, root, l)
			within.All(api.Grammar{}, x, root, l)
			for _, s := range l {
				within.Step(x, root, s)
				for range within.Touches(s) {
				}
			}
			untouched(t, "the tree", x, rich())
			untouchedRow(t, "the row", l, tries()[i])
			if !reflect.DeepEqual(g, lists()) {
				t.Error("the grammar is changed:", g)
			}
		}
	}
}

// R4: rows and trees that share memory with one another stay as they are, too.
func TestTwins(t *testing.T) {
	x := rich()
	l := roomyRow(insert(2, 0, bough(21)), write(22, "n"), remove(21), insert(2, 0, bough(21)), move(23, 2, 0), write(24, "m"))
	l[3].Sub = l[0].Sub
	whole := append(slices.Clip(l), l...)
	answers(t, "twins", lists(), x, 2, l, len(l), api.OK)
	answers(t, "twins twice", lists(), x, 2, whole, len(l), api.ErrTwice)
	answers(t, "the tree in itself", lists(), x, 2, row(insert(2, 0, x.Kids[0])), 0, api.ErrTwice)
	part := roomyRow(write(2, "a"), write(2, "b"), write(1, "c"))
	answers(t, "a beginning", lists(), x, 2, part[:2], 2, api.OK)
	answers(t, "the rest", lists(), x, 2, part[1:], 1, api.ErrOutside)
	untouched(t, "the tree", x, rich())
	if !tree.Same(l[0].Sub, bough(21)) || !asWas([]api.Node{l[3].Sub}, []api.Node{bough(21)}) {
		t.Error("what was handed in is changed:", tree.Show(l[0].Sub))
	}
	untouchedRow(t, "the part", part, roomyRow(write(2, "a"), write(2, "b"), write(1, "c")))
}

// R4: Touches tells what there was when it was called.
func TestTouchesMemory(t *testing.T) {
	s := move(3, 2, 0)
	s.Sub = bough(21)
	each := within.Touches(s)
	spoil(s.Sub)
	s.Op, s.Id, s.Parent = api.StText, 98, 99
	if ids := slices.Collect(each); !slices.Equal(ids, []int{3, 2}) {
		t.Error(ids)
	}
	var ids []int
	s = move(3, 2, 0)
	for id := range within.Touches(s) {
		ids = append(ids, id)
		s.Op, s.Id, s.Parent = api.StText, 98, 99
	}
	if !slices.Equal(ids, []int{3, 2}) {
		t.Error(ids)
	}
}

// answer is what all calls tell of a row.
type answer struct {
	at   int
	e    api.Errno
	in   []bool
	over []int
}

// all gives what all calls tell of the rows and some trees.
func all() []answer {
	var l []answer
	for _, x := range []api.Node{rich(), small(), twice(), {}} {
		for _, root := range []int{1, 2, 5, 9} {
			for _, steps := range tries() {
				var a answer
				a.at, a.e = within.All(lists(), x, root, steps)
				for _, s := range steps {
					a.in = append(a.in, within.Step(x, root, s))
					a.over = slices.AppendSeq(a.over, within.Touches(s))
				}
				l = append(l, a)
			}
		}
	}
	return l
}

// R3: the same call tells the same, whatever was called between.
func TestAgain(t *testing.T) {
	if first := all(); !reflect.DeepEqual(first, all()) {
		t.Error("other answers")
	}
}

// R3, R4: calls of the same things at one time do not meet.
func TestAtOneTime(t *testing.T) {
	x, each := rich(), within.Touches(move(6, 2, 1))
	l := tries()[6]
	var running sync.WaitGroup
	for range 8 {
		running.Go(func() {
			for range 50 {
				if at, e := within.All(lists(), x, 2, l); at != len(l) || e != api.OK {
					t.Error(at, e)
				}
				if !within.Step(x, 2, l[0]) || !slices.Equal(slices.Collect(each), []int{6, 2}) {
					t.Error("another answer")
				}
			}
		})
	}
	running.Wait()
}
