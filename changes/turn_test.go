package changes_test

import (
	"slices"
	"testing"

	"allotment/api"
	"allotment/changes"
	"allotment/step"
	"allotment/tree"
)

// turned checks what a row that goes is turned about, and that it goes step by step on what came, by the trees on the way, and gives the tree back.
func turned(t *testing.T, what string, x api.Node, l, want []api.Step) {
	t.Helper()
	back, e := changes.Invert(x, l)
	if e != api.OK || !allAlike(back, want) {
		t.Errorf("%s: %v, %v; want %v", what, back, e, want)
	}
	thereAndBack(t, what, x, l, back)
}

// thereAndBack checks by P11.4 that back takes what l makes of x back to x, one by one.
func thereAndBack(t *testing.T, what string, x api.Node, l, back []api.Step) {
	t.Helper()
	trees := []api.Node{x}
	for at, s := range l {
		y, e := step.Apply(trees[at], s)
		if e != api.OK {
			t.Fatalf("%s: does not go at %d: %v", what, at, e)
		}
		trees = append(trees, y)
	}
	if len(back) != len(l) {
		t.Fatalf("%s: %d steps back; want %d", what, len(back), len(l))
	}
	y := trees[len(l)]
	for at, s := range back {
		z, e := step.Apply(y, s)
		want := trees[len(l)-1-at]
		if e != api.OK || !tree.Same(z, want) {
			t.Fatalf("%s: %v back at %d: %s, %v; want %s", what, s, at, tree.Show(z), e, tree.Show(want))
		}
		y = z
	}
}

// unturned checks that a row has no inverse, and why.
func unturned(t *testing.T, what string, x api.Node, l []api.Step, want api.Errno) {
	t.Helper()
	if back, e := changes.Invert(x, l); e != want || len(back) > 0 {
		t.Errorf("%s: %v, %v; want %v", what, back, e, want)
	}
}

// P11.3, P11.4: rows turned about.
func TestInvert(t *testing.T) {
	named := small()
	named.Kids[0].Text, named.Kids[1].Kids[0].Kind = "two", 2
	bough := api.Node{Id: 8, Kind: 1, Text: "b", Kids: []api.Node{node(9), node(7)}}
	four := api.Node{Id: 4, Kind: 2}
	for what, c := range map[string]struct{ l, want []api.Step }{
		"none":                    {nil, nil},
		"an empty row":            {[]api.Step{}, nil},
		"an insert":               {row(insert(1, 1, bough)), row(remove(8))},
		"a delete":                {row(remove(3)), row(insert(1, 1, node(3, four)))},
		"a move":                  {row(move(2, 3, 1)), row(move(2, 1, 0))},
		"a text":                  {row(write(2, "")), row(write(2, "two"))},
		"the last one first":      {row(write(2, "a"), move(2, 3, 0), insert(2, 0, bough), remove(3)), row(insert(1, 0, node(3, api.Node{Id: 2, Text: "a", Kids: []api.Node{bough}}, four)), remove(8), move(2, 1, 0), write(2, "two"))},
		"one node's texts":        {row(write(2, "a"), write(2, "b"), write(2, "c")), row(write(2, "b"), write(2, "a"), write(2, "two"))},
		"what came went":          {row(insert(4, 0, bough), write(9, "x"), remove(8)), row(insert(4, 0, api.Node{Id: 8, Kind: 1, Text: "b", Kids: []api.Node{{Id: 9, Text: "x"}, node(7)}}), write(9, ""), remove(8))},
		"what went came":          {row(remove(2), insert(4, 0, node(2))), row(remove(2), insert(1, 0, api.Node{Id: 2, Text: "two"}))},
		"places as they are then": {row(remove(2), move(4, 1, 0), move(3, 4, 0)), row(move(3, 1, 1), move(4, 3, 0), insert(1, 0, api.Node{Id: 2, Text: "two"}))},
		"still ones":              {row(move(2, 1, 0), write(2, "two")), row(write(2, "two"), move(2, 1, 0))},
		"one below the other":     {row(remove(4), remove(3), remove(2)), row(insert(1, 0, api.Node{Id: 2, Text: "two"}), insert(1, 1, node(3)), insert(3, 0, four))},
		"fields that count not":   {row(api.Step{Op: api.StDelete, Id: 4, Parent: 9, Place: 9, Text: "x", Sub: node(3)}), row(insert(3, 0, four))},
	} {
		turned(t, what, named, c.l, c.want)
	}
}

// P11.3: no grammar is asked, and none of what comes between need conform.
func TestInvertAnyForm(t *testing.T) {
	x := planted()
	l := row(remove(3), write(1, "x"), insert(7, 0, of(-1, 8)), move(2, 7, 0), insert(1, 0, of(99, 9)))
	turned(t, "no form", x, l, row(remove(9), move(2, 1, 0), remove(8), write(1, ""), insert(2, 0, of(plant, 3))))
	turned(t, "ids that may not be", node(0, node(-1), node(-2)), row(move(-2, -1, 0), write(0, "x")), row(write(0, ""), move(-2, 0, 1)))
}

// P11.3: the error of the first step, from the left, that has one.
func TestInvertErrors(t *testing.T) {
	wrongs := map[string]struct {
		s api.Step
		e api.Errno
	}{
		"no Op":                         {api.Step{Op: 5, Id: 2}, api.ErrArg},
		"the zero step":                 {api.Step{}, api.ErrArg},
		"insert: no Parent":             {insert(99, -1, node(0)), api.ErrNone},
		"insert: no place":              {insert(1, 3, node(4)), api.ErrArg},
		"insert: no id":                 {insert(1, 0, node(4, node(0))), api.ErrArg},
		"insert: there already":         {insert(1, 0, node(4)), api.ErrTwice},
		"delete: none":                  {remove(99), api.ErrNone},
		"delete: the root":              {remove(1), api.ErrRoot},
		"delete: a Sub that's too much": {api.Step{Op: api.StDelete, Id: 2, Sub: node(1, make([]api.Node, 10*api.MaxNodes)...)}, api.ErrArg},
		"move: none":                    {move(2, 99, 0), api.ErrNone},
		"move: the root":                {move(1, 2, 0), api.ErrRoot},
		"move: a loop":                  {move(3, 4, 0), api.ErrLoop},
		"move: no place":                {move(2, 1, 2), api.ErrArg},
		"text: none":                    {write(99, ""), api.ErrNone},
	}
	good := row(write(2, "a"), insert(2, 0, node(5)), move(5, 3, 0), remove(5))
	for what, c := range wrongs {
		for place := range len(good) + 1 {
			unturned(t, what, small(), slices.Insert(row(good...), place, c.s), c.e)
		}
		for other, d := range wrongs {
			unturned(t, what+"; "+other, small(), row(c.s, d.s), c.e)
			unturned(t, what+"; "+other, small(), row(write(2, "a"), c.s, remove(2), d.s), c.e)
		}
	}
	unturned(t, "gone", small(), row(remove(2), write(2, "x")), api.ErrNone)
	unturned(t, "come", small(), row(insert(2, 0, node(5)), insert(5, 0, node(5))), api.ErrTwice)
	unturned(t, "below it by then", small(), row(move(2, 4, 0), move(3, 2, 0)), api.ErrLoop)
	unturned(t, "the last one", small(), row(remove(4), remove(3), remove(2), remove(1)), api.ErrRoot)
}

// P11.3, P11.4: what is turned about goes one by one, even where it inserts more than a change set may.
func TestInvertTooLong(t *testing.T) {
	bough := fan(10, 3*api.MaxNodes/4)
	x := node(1, bough)
	l := row(remove(10), insert(1, 0, bough), write(20, "x"), remove(10))
	if _, _, e := changes.Apply(lists(), x, l); e != api.OK {
		t.Fatal(e)
	}
	back, e := changes.Invert(x, l)
	if e != api.OK || changes.Check(back) != api.ErrLong {
		t.Error(len(back), e)
	}
	thereAndBack(t, "more than a change set may", x, l, back)
}

// joins checks what two rows are together.
func joins(t *testing.T, what string, a, b []api.Step) {
	t.Helper()
	both, e := changes.Join(a, b)
	if e != api.OK || !allAlike(both, slices.Concat(a, b)) {
		t.Errorf("%s: %v, %v", what, both, e)
	}
}

// P11.3: both, one behind the other, with all that their steps have, whether they go or not.
func TestJoin(t *testing.T) {
	full := api.Step{Id: 3, Parent: 4, Place: -5, Text: "x", Sub: node(6, node(7), node(8))}
	var a []api.Step
	for op := int8(-2); op < 8; op++ {
		full.Op = op
		a = append(a, full)
	}
	b := row(remove(2), write(2, "a"), api.Step{})
	for what, pair := range map[string][2][]api.Step{
		"none":       {nil, nil},
		"empty rows": {{}, {}},
		"the one":    {a, nil},
		"the other":  {nil, b},
		"both":       {a, b},
		"about":      {b, a},
		"itself":     {a, a},
	} {
		joins(t, what, pair[0], pair[1])
	}
	one := slices.Repeat(row(write(2, "x"), remove(3)), api.MaxSteps/2)
	for at := range api.MaxSteps + 1 {
		joins(t, "just MaxSteps steps", one[:at], one[at:])
		for _, more := range [][2][]api.Step{{one, b[:1]}, {b[:1], one}, {one[at:], one}, {append(row(one[:at]...), b[0]), one[at:]}} {
			if both, e := changes.Join(more[0], more[1]); len(more[0])+len(more[1]) > api.MaxSteps && (e != api.ErrLong || len(both) > 0) {
				t.Errorf("%d and %d steps: %d, %v", len(more[0]), len(more[1]), len(both), e)
			}
		}
	}
}

// P11.3: rows that are a change set each, but have too many inserted nodes together.
func TestJoinNodes(t *testing.T) {
	for _, first := range []int{1, 2, api.MaxNodes / 2, api.MaxNodes - 2, api.MaxNodes - 1} {
		a := row(write(1, "x"), insert(1, 0, fan(1000, first)))
		b := row(insert(1, 0, fan(2000, api.MaxNodes-first)), remove(2))
		joins(t, "just MaxNodes nodes", a, b)
		b[0].Sub = fan(2000, api.MaxNodes-first+1)
		if changes.Check(a) != api.OK || changes.Check(b) != api.OK {
			t.Error("one of the two is none:", first)
		}
		for _, pair := range [][2][]api.Step{{a, b}, {b, a}} {
			if both, e := changes.Join(pair[0], pair[1]); e != api.ErrLong || len(both) > 0 {
				t.Errorf("one more: %d, %v", len(both), e)
			}
		}
	}
}

// P11.4: Apply of Join is Apply of the one, then of the other, whichever does not go.
func TestJoinApplied(t *testing.T) {
	rows := [][]api.Step{
		nil, row(write(2, "a")), row(remove(2)), row(move(4, 2, 0), write(4, "b")), row(insert(1, 0, node(5)), write(5, "c")),
		row(write(5, "d")), row(remove(9)), row(remove(4), remove(4)), row(write(2, "e"), api.Step{}), row(remove(1)),
	}
	for _, a := range rows {
		for _, b := range rows {
			for _, g := range append(wrong(), lists()) {
				joinedGoes(t, g, small(), a, b)
			}
		}
	}
}

// joinedGoes checks by P11.4 what the row of both comes to.
func joinedGoes(t *testing.T, g api.Grammar, x api.Node, a, b []api.Step) {
	t.Helper()
	both, e := changes.Join(a, b)
	if e != api.OK {
		t.Fatal(a, b, e)
	}
	want, wantAt, wantE := changes.Apply(g, x, a)
	if wantE == api.OK {
		y := want
		if want, wantAt, wantE = changes.Apply(g, y, b); wantE != api.OK {
			want = x
		}
		wantAt += len(a)
	}
	if y, at, e := changes.Apply(g, x, both); e != wantE || at != wantAt || !tree.Same(y, want) {
		t.Errorf("%v, %v: %s, %d, %v; want %s, %d, %v", a, b, tree.Show(y), at, e, tree.Show(want), wantAt, wantE)
	}
}
