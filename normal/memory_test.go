package normal_test

import (
	"iter"
	"reflect"
	"slices"
	"sync"
	"testing"

	"allotment/api"
	"allotment/normal"
	"allotment/tree"
)

// roomy gives kids with room behind them, and something in it.
func roomy(kids ...api.Node) []api.Node {
	l := make([]api.Node, len(kids), len(kids)+3)
	copy(l, kids)
	for i := range l[len(l):cap(l)] {
		l[len(l):cap(l)][i] = api.Node{Id: 77, Text: "room"}
	}
	return l
}

// roomyRow gives steps with room behind them, and something in it that fits what is ahead.
func roomyRow(steps ...api.Step) []api.Step {
	l := make([]api.Step, len(steps), len(steps)+3)
	copy(l, steps)
	for i := range l[len(l):cap(l)] {
		l[len(l):cap(l)][i] = api.Step{Op: api.StText, Id: 2, Text: "room"}
	}
	return l
}

// rich gives a subtree, from that id on, in memory of its own, with room behind the kids, where there are none, too.
func rich(id int) api.Node {
	return api.Node{Id: id, Text: "b", Kids: roomy(
		api.Node{Id: id + 1, Kids: roomy(api.Node{Id: id + 2, Text: "c"})},
		api.Node{Id: id + 3, Kids: roomy()},
		api.Node{Id: id + 2, Kids: roomy(api.Node{Id: id, Kids: roomy()})})}
}

// tries are rows, in memory of their own: such as fit each rule, several, and none; with a Sub beside each Op.
func tries() [][]api.Step {
	full := func(op int8, id int) api.Step {
		return api.Step{Op: op, Id: id, Parent: 3, Place: 1, Text: "x", Sub: rich(id)}
	}
	return [][]api.Step{
		nil,
		roomyRow(),
		roomyRow(insert(1, 0, rich(21))),
		roomyRow(full(api.StText, 2)),
		roomyRow(full(api.StText, 2), full(api.StText, 2)),
		roomyRow(full(api.StInsert, 21), full(api.StDelete, 21)),
		roomyRow(full(api.StMove, 2), full(api.StMove, 2)),
		roomyRow(full(api.StInsert, 21), full(api.StText, 21)),
		roomyRow(full(api.StInsert, 21), full(api.StText, 23)),
		roomyRow(full(api.StInsert, 21), full(api.StText, 23), full(api.StText, 24), full(api.StText, 23)),
		roomyRow(full(api.StText, 2), full(api.StInsert, 21), full(api.StText, 23), full(api.StDelete, 21), full(api.StText, 2), full(api.StDelete, 2)),
		roomyRow(full(api.StInsert, 21), full(api.StText, 22), full(api.StInsert, 31), full(api.StText, 33), full(api.StMove, 31), full(api.StMove, 31)),
		roomyRow(full(api.StInsert, 21), full(api.StInsert, 21), full(api.StText, 21), full(api.StDelete, 21), full(api.StText, 22)),
		roomyRow(full(api.StInsert, 21), full(api.StText, 9), full(api.StDelete, 21), full(api.StMove, 9), full(7, 21), full(0, 21), full(-1, 21)),
		roomyRow(full(api.StDelete, 21), full(api.StInsert, 21), full(api.StDelete, 22), full(api.StText, 21), full(api.StText, 21)),
	}
}

// asWas tells whether two rows of nodes are the same, room included.
func asWas(a, b []api.Node) bool {
	return len(a) == len(b) && cap(a) == cap(b) && slices.EqualFunc(a[:cap(a)], b[:cap(b)], func(x, y api.Node) bool {
		return x.Id == y.Id && x.Kind == y.Kind && x.Text == y.Text && asWas(x.Kids, y.Kids)
	})
}

// untouched checks that a row is as it was, room included.
func untouched(t *testing.T, what string, l, want []api.Step) {
	t.Helper()
	same := len(l) == len(want) && cap(l) == cap(want) && slices.EqualFunc(l[:cap(l)], want[:cap(want)], func(a, b api.Step) bool {
		return alike(a, b) && asWas([]api.Node{a.Sub}, []api.Node{b.Sub})
	})
	if !same {
		t.Errorf("%s: what was handed in is changed: %s; want %s", what, shown(l), shown(want))
	}
}

// spoil writes over all memory that a node hands out, room included.
func spoil(x api.Node) {
	l := x.Kids[:cap(x.Kids)]
	for i := range l {
		spoil(l[i])
		l[i] = api.Node{Id: 99, Kind: 99, Text: "spoilt", Kids: []api.Node{{Id: 98}}}
	}
}

// spoilRow writes over all memory that a row hands out, room included.
func spoilRow(l []api.Step) {
	l = l[:cap(l)]
	for i := range l {
		spoil(l[i].Sub)
		l[i] = api.Step{Op: api.StInsert, Id: 99, Parent: 99, Place: 99, Text: "spoilt", Sub: node(99)}
	}
}

// calls are all that tell a row, of rows.
func calls() map[string]func(l []api.Step) []api.Step {
	m := map[string]func(l []api.Step) []api.Step{
		"Of": normal.Of,
		"Pair": func(l []api.Step) []api.Step {
			if len(l) < 2 {
				return nil
			}
			stays, _ := normal.Pair(l[0], l[1])
			return stays
		},
	}
	for at, name := range []string{"Steps, the first one", "Steps, the second one", "Steps, the third one", "Steps, the fourth one"} {
		m[name] = func(l []api.Step) []api.Step {
			if rows := ways(l); at < len(rows) {
				return rows[at]
			}
			return nil
		}
	}
	return m
}

// R4: what was handed in is as it was, room behind rows included, whatever is asked of it.
func TestUntouched(t *testing.T) {
	for i, l := range tries() {
		for name, call := range calls() {
			for range 2 {
				call(l)
				untouched(t, name, l, tries()[i])
			}
			for to := range l { // what is ahead of a step has it as its room
				call(l[:to])
				untouched(t, name, l, tries()[i])
			}
		}
		normal.Is(l)
		for range normal.Steps(l) {
			untouched(t, "Steps", l, tries()[i])
		}
		untouched(t, "all", l, tries()[i])
	}
}

// R4: rows that are told are new memory, and so are the subtrees in them, of steps of any Op.
func TestRowsMemory(t *testing.T) {
	subs := 0
	for name, call := range calls() {
		for i, l := range tries() {
			want := call(tries()[i])
			a, b := call(l), call(l)
			for at := range a {
				subs += len(a[at].Sub.Kids)
				spoil(a[at].Sub) // one step's alone
				a[at].Sub = api.Node{}
				for other := at + 1; other < len(a); other++ {
					if !alike(a[other], want[other]) {
						t.Errorf("%s, %d: two steps share memory: %s", name, i, shown(a[other:other+1]))
					}
				}
			}
			spoilRow(a)
			untouched(t, name, l, tries()[i])
			spoilRow(l)
			if !allAlike(b, want) {
				t.Errorf("%s, %d: the answer shares memory: %s", name, i, shown(b))
			}
		}
	}
	if subs < 300 {
		t.Errorf("%d subtrees were told: that tells little", subs)
	}
}

// R4: steps of one row that share memory don't in what is told.
func TestTwins(t *testing.T) {
	s := insert(1, 0, rich(21))
	l := row(s, s, write(23, "x"), s)
	for name, call := range map[string]func() []api.Step{
		"Of":                      func() []api.Step { return normal.Of(l) },
		"Steps, the first one":    func() []api.Step { return ways(l)[0] },
		"Steps, the last one":     func() []api.Step { return ways(l)[1] },
		"Steps, as it is told it": func() []api.Step { return taken(normal.Steps(l), 1) },
	} {
		told, want := call(), call()
		for at := range told {
			spoil(told[at].Sub)
			for other := at + 1; other < len(told); other++ {
				if !alike(told[other], want[other]) {
					t.Errorf("%s: the twins share memory: %s", name, shown(told))
				}
			}
		}
	}
	if !tree.Same(s.Sub, rich(21)) {
		t.Error("what was handed in is changed:", tree.Show(s.Sub))
	}
}

// taken gives the row at that place.
func taken(steps iter.Seq[[]api.Step], at int) (told []api.Step) {
	for told = range steps {
		if at--; at < 0 {
			break
		}
	}
	return told
}

// P12.2, R4: rows that Steps tells are new memory each time, and tell what there was when it was called.
func TestStepsMemory(t *testing.T) {
	for i := range tries() {
		want := ways(tries()[i])
		check := func(what string, at int, told []api.Step) {
			t.Helper()
			if at >= len(want) || !allAlike(told, want[at]) {
				t.Errorf("%d, %s: %d, %s", i, what, at, shown(told))
			}
		}
		l := tries()[i]
		steps := normal.Steps(l)
		at := 0
		for told := range steps { // spoilt while it is gone over
			check("as it comes", at, told)
			spoilRow(told)
			spoilRow(append(told, write(2, "behind it"), remove(2)))
			at++
		}
		untouched(t, "Steps", l, tries()[i])
		if at != len(want) {
			t.Errorf("%d: %d rows; want %d", i, at, len(want))
		}
		var all [][]api.Step
		for told := range steps { // what was handed in is spoilt while it is gone over
			check("as it comes again", len(all), told)
			spoilRow(l)
			all = append(all, told)
		}
		if len(all) != len(want) {
			t.Errorf("%d: %d rows; want %d", i, len(all), len(want))
		}
		for at := range all { // each has its own
			spoilRow(all[at])
			for other := at + 1; other < len(all); other++ {
				check("when those ahead are spoilt", other, all[other])
			}
		}
		for at := range want {
			check("when all is spoilt", at, taken(steps, at))
		}
	}
}

// R3, R4: goings at one time touch nothing of one another's.
func TestStepsAtOneTime(t *testing.T) {
	for i, l := range tries() {
		steps, want := normal.Steps(l), ways(tries()[i])
		var wait sync.WaitGroup
		for range 4 {
			wait.Go(func() {
				if told := slices.Collect(steps); !sameRows(told, want) {
					t.Errorf("%d: other rows", i)
				}
				if !allAlike(normal.Of(l), want[len(want)-1]) || normal.Is(l) != (len(want) == 1) {
					t.Errorf("%d: other answers", i)
				}
			})
		}
		wait.Wait()
	}
}

// R3: the same call tells the same, whatever was called between.
func TestAgain(t *testing.T) {
	all := func() (told [][]api.Step, is []bool) {
		for _, l := range tries() {
			told, is = append(told, normal.Of(l)), append(is, normal.Is(l))
			told = append(told, ways(l)...)
			for at := range max(0, len(l)-1) {
				stays, ok := normal.Pair(l[at], l[at+1])
				told, is = append(told, stays), append(is, ok)
			}
		}
		return told, is
	}
	told, is := all()
	toldAgain, isAgain := all()
	if !reflect.DeepEqual(told, toldAgain) || !slices.Equal(is, isAgain) {
		t.Error("other answers")
	}
}

// R4: of kids of nothing and none what is told has the same.
func TestNoKids(t *testing.T) {
	for _, sub := range []api.Node{{Id: 5}, {Id: 5, Kids: []api.Node{}}, {Id: 5, Kids: []api.Node{{Id: 6, Kids: []api.Node{}}, {Id: 7}}}} {
		want := tree.Copy(sub)
		want.Text = "x"
		if l := normal.Of(row(insert(1, 0, sub), write(5, "x"))); len(l) != 1 || !reflect.DeepEqual(l[0].Sub, want) {
			t.Errorf("%s; want %s", shown(l), tree.Show(want))
		}
	}
}
