package changes_test

import (
	"reflect"
	"slices"
	"strings"
	"testing"

	"allotment/api"
	"allotment/changes"
	"allotment/tree"
)

// told gives the places and trees that Each goes over.
func told(g api.Grammar, x api.Node, l []api.Step) (places []int, trees []api.Node) {
	for at, y := range changes.Each(g, x, l) {
		places, trees = append(places, at), append(trees, y)
	}
	return places, trees
}

// goes checks that all of a row goes, and what it comes to; and that Each goes over what each beginning comes to.
func goes(t *testing.T, what string, g api.Grammar, x api.Node, l []api.Step, want string) {
	t.Helper()
	y, at, e := changes.Apply(g, x, l)
	if e != api.OK || at != len(l) || tree.Show(y) != want {
		t.Errorf("%s: %s, %d, %v; want %s, %d", what, tree.Show(y), at, e, want, len(l))
	}
	beginnings(t, what, g, x, l, len(l))
}

// stuck checks that the step there is the first one that does not go, why, and that the tree is as it was; and that Each goes over what is ahead of it.
func stuck(t *testing.T, what string, g api.Grammar, x api.Node, l []api.Step, place int, want api.Errno) {
	t.Helper()
	y, at, e := changes.Apply(g, x, l)
	if e != want || at != place {
		t.Errorf("%s: %d, %v; want %d, %v", what, at, e, place, want)
	}
	if !reflect.DeepEqual(y, x) {
		t.Errorf("%s: the tree is not as it was: %s; want %s", what, tree.Show(y), tree.Show(x))
	}
	beginnings(t, what, g, x, l, place)
}

// beginnings checks that Each goes over the first so many steps of a row, and tells what Apply makes of each beginning.
func beginnings(t *testing.T, what string, g api.Grammar, x api.Node, l []api.Step, count int) {
	t.Helper()
	places, trees := told(g, x, l)
	if len(places) != count {
		t.Errorf("%s: Each goes over %d steps; want %d", what, len(places), count)
	}
	for i, at := range places {
		y, went, e := changes.Apply(g, x, l[:i+1])
		if at != i || went != i+1 || e != api.OK || !tree.Same(trees[i], y) {
			t.Errorf("%s: Each at %d: %d, %s; Apply tells %s, %d, %v", what, i, at, tree.Show(trees[i]), tree.Show(y), went, e)
		}
	}
}

// tooLong checks that a row is no change set, whatever is asked of it.
func tooLong(t *testing.T, what string, l []api.Step) {
	t.Helper()
	if e := changes.Check(l); e != api.ErrLong {
		t.Errorf("%s: Check %v", what, e)
	}
	for _, g := range []api.Grammar{lists(), {}} {
		for _, x := range []api.Node{node(1, node(2)), {}} {
			if y, at, e := changes.Apply(g, x, l); e != api.ErrLong || at != 0 || !reflect.DeepEqual(y, api.Node{}) {
				t.Errorf("%s: Apply %s, %d, %v", what, tree.Show(y), at, e)
			}
			if places, _ := told(g, x, l); len(places) > 0 {
				t.Errorf("%s: Each goes over %v", what, places)
			}
			if back, e := changes.Invert(x, l); e != api.ErrLong || len(back) > 0 {
				t.Errorf("%s: Invert %d steps, %v", what, len(back), e)
			}
		}
	}
	for _, pair := range [][2][]api.Step{{l, nil}, {nil, l}, {l, l}, {l[:1], l[1:]}, {l[:len(l)-1], l[len(l)-1:]}} {
		if both, e := changes.Join(pair[0], pair[1]); e != api.ErrLong || len(both) > 0 {
			t.Errorf("%s: Join %d steps, %v", what, len(both), e)
		}
	}
}

// small is a tree of lists.
func small() api.Node {
	return node(1, node(2), node(3, node(4)))
}

// P11.2: rows of which each step goes.
func TestApply(t *testing.T) {
	for what, c := range map[string]struct {
		l    []api.Step
		want string
	}{
		"none":                     {nil, "1:0(2:0,3:0(4:0))"},
		"an empty row":             {[]api.Step{}, "1:0(2:0,3:0(4:0))"},
		"an insert":                {row(insert(2, 0, node(5, node(6)))), "1:0(2:0(5:0(6:0)),3:0(4:0))"},
		"a delete":                 {row(remove(3)), "1:0(2:0)"},
		"a move":                   {row(move(2, 3, 1)), "1:0(3:0(4:0,2:0))"},
		"a text":                   {row(write(4, "a")), `1:0(2:0,3:0(4:0"a"))`},
		"one of each":              {row(write(4, "a"), insert(2, 0, node(5)), move(4, 5, 0), remove(3)), `1:0(2:0(5:0(4:0"a")))`},
		"on what came":             {row(insert(1, 0, node(5)), insert(5, 0, node(6)), write(6, "b"), move(3, 6, 0)), `1:0(5:0(6:0"b"(3:0(4:0))),2:0)`},
		"gone, and there again":    {row(remove(2), insert(4, 0, node(2)), write(2, "x")), `1:0(3:0(4:0(2:0"x")))`},
		"the last one counts":      {row(write(2, "a"), write(2, "b"), write(2, "c")), `1:0(2:0"c",3:0(4:0))`},
		"the order counts":         {row(move(2, 3, 0), move(3, 1, 0), move(4, 1, 0)), "1:0(4:0,3:0(2:0))"},
		"there and back":           {row(move(4, 2, 0), move(4, 3, 0)), "1:0(2:0,3:0(4:0))"},
		"to where it stands":       {row(move(4, 3, 0), move(2, 1, 0)), "1:0(2:0,3:0(4:0))"},
		"two change, one below":    {row(move(4, 1, 0), move(3, 4, 0)), "1:0(4:0(3:0),2:0)"},
		"the greatest id, twice":   {row(insert(2, 0, node(api.MaxNumber)), remove(api.MaxNumber), insert(2, 0, node(api.MaxNumber))), "1:0(2:0(1125899906842624:0),3:0(4:0))"},
		"fields that count not":    {row(api.Step{Op: api.StDelete, Id: 2, Parent: 9, Place: -1, Text: "x", Sub: node(1)}), "1:0(3:0(4:0))"},
		"all that can go, step by": {row(remove(4), remove(3), remove(2)), "1:0"},
	} {
		goes(t, what, lists(), small(), c.l, c.want)
	}
	goes(t, "of own", own(), planted(), row(write(7, "rose"), move(6, 2, 1), insert(1, 0, of(bed, 8, of(plant, 9))), remove(4)), `1:0(8:1(9:2),2:1(3:2,6:1(7:2"rose")))`)
	long := slices.Repeat(row(write(2, "x"), move(2, 3, 0), move(2, 1, 0)), api.MaxSteps/3)
	goes(t, "just MaxSteps steps", lists(), small(), long, `1:0(2:0"x",3:0(4:0))`)
}

// P11.2: of none the tree as it is, whatever it is, and whatever the grammar is.
func TestApplyNone(t *testing.T) {
	deep := node(3000)
	for id := 2999; id > 0; id-- {
		deep = node(id, deep)
	}
	for what, x := range map[string]api.Node{
		"the zero node":       {},
		"ids that may not be": node(0, node(-1), node(-1)),
		"another root":        of(plant, 1),
		"no kind":             {Id: 1, Kind: -5, Text: strings.Repeat("w", 1000), Kids: []api.Node{{}}},
		"no kids":             {Id: 1, Kids: []api.Node{}},
		"too many nodes":      node(1, make([]api.Node, 10*api.MaxNodes)...),
		"too deep":            deep,
		"one that conforms":   planted(),
	} {
		for _, g := range append(wrong(), own(), lists()) {
			for _, l := range [][]api.Step{nil, {}, row(remove(2))[:0]} {
				y, at, e := changes.Apply(g, x, l)
				if at != 0 || e != api.OK || !reflect.DeepEqual(y, x) {
					t.Errorf("%s: %s, %d, %v", what, tree.Show(y), at, e)
				}
				beginnings(t, what, g, x, l, 0)
			}
		}
	}
}

// P11.2: each error, of a step that stands first, in the midst, last and alone.
func TestApplyErrors(t *testing.T) {
	for what, c := range map[string]struct {
		s api.Step
		e api.Errno
	}{
		"no Op":                               {api.Step{Op: 5, Id: 2, Parent: 1}, api.ErrArg},
		"the zero step":                       {api.Step{}, api.ErrArg},
		"an Op below 0":                       {api.Step{Op: -1, Id: 2}, api.ErrArg},
		"insert: no Parent":                   {insert(99, -1, of(bed, 0)), api.ErrNone},
		"insert: no place":                    {insert(1, 4, of(bed, 3)), api.ErrArg},
		"insert: no id, and one there":        {insert(1, 0, of(bed, 3, of(plant, 0))), api.ErrArg},
		"insert: there already":               {insert(1, 0, of(plant, 3)), api.ErrTwice},
		"insert: no Parent for many nodes":    {insert(99, 0, node(1, make([]api.Node, api.MaxNodes/2)...)), api.ErrNone},
		"insert: no form":                     {insert(1, 0, of(bed, 98)), api.ErrForm},
		"delete: none":                        {remove(99), api.ErrNone},
		"delete: the root":                    {remove(1), api.ErrRoot},
		"delete: no form":                     {remove(3), api.ErrForm},
		"delete: a Sub that is too great":     {api.Step{Op: api.StDelete, Id: 99, Sub: node(1, make([]api.Node, 10*api.MaxNodes)...)}, api.ErrArg},
		"move: none":                          {move(1, 99, -1), api.ErrNone},
		"move: the root":                      {move(1, 1, -1), api.ErrRoot},
		"move: a loop":                        {move(4, 6, -1), api.ErrLoop},
		"move: no place":                      {move(6, 2, 9), api.ErrArg},
		"move: no form":                       {move(3, 4, 0), api.ErrForm},
		"text: none":                          {write(99, ""), api.ErrNone},
		"text: no form":                       {write(2, "x"), api.ErrForm},
		"text: too long":                      {write(3, strings.Repeat("w", api.MaxWord+1)), api.ErrForm},
		"text: a Sub that is too great there": {api.Step{Op: api.StText, Id: 3, Sub: node(1, make([]api.Node, 10*api.MaxNodes)...)}, api.ErrArg},
	} {
		good := row(write(3, "a"), insert(1, 2, of(bed, 8, of(plant, 9))), move(8, 2, 1), write(9, "b"), remove(8))
		for place := range len(good) + 1 {
			stuck(t, what, own(), planted(), slices.Insert(row(good...), place, c.s), place, c.e)
			stuck(t, what+", the last one", own(), planted(), append(row(good[:place]...), c.s), place, c.e)
		}
		if c.e != api.ErrForm { // the step's own error goes ahead of the grammar's
			for _, g := range wrong() {
				stuck(t, what, g, planted(), append(row(c.s), good...), 0, c.e)
			}
		}
	}
	for _, g := range wrong() {
		stuck(t, "a grammar that may not be", g, planted(), row(write(3, "a"), remove(99)), 0, api.ErrGrammar)
		stuck(t, "a grammar that may not be, no form", g, planted(), row(write(2, "a"), remove(99)), 0, api.ErrGrammar)
	}
}

// P11.2: of several steps that do not go the first one counts, whatever the others' errors are.
func TestApplyFirst(t *testing.T) {
	wrongs := []struct {
		s api.Step
		e api.Errno
	}{{write(99, ""), api.ErrNone}, {remove(1), api.ErrRoot}, {move(3, 4, 0), api.ErrLoop}, {api.Step{}, api.ErrArg}, {insert(1, 0, node(4)), api.ErrTwice}, {write(2, strings.Repeat("w", api.MaxWord+1)), api.ErrForm}}
	for _, first := range wrongs {
		for _, then := range wrongs {
			stuck(t, "two", lists(), small(), row(first.s, then.s), 0, first.e)
			stuck(t, "two, apart", lists(), small(), row(write(2, "a"), first.s, write(2, "b"), then.s, write(2, "c")), 1, first.e)
		}
	}
	stuck(t, "none behind it is asked", lists(), small(), row(remove(2), write(2, "x"), insert(1, 0, node(2)), write(2, "y")), 1, api.ErrNone)
	stuck(t, "no id that went", lists(), small(), row(move(2, 3, 0), remove(3), write(4, "x")), 2, api.ErrNone)
	stuck(t, "no place any more", lists(), small(), row(remove(2), move(4, 1, 1), move(3, 1, 2)), 2, api.ErrArg)
	stuck(t, "a loop that came", lists(), small(), row(move(2, 4, 0), move(3, 2, 0)), 1, api.ErrLoop)
	stuck(t, "an id that came", lists(), small(), row(insert(2, 0, node(5)), insert(3, 0, node(5))), 1, api.ErrTwice)
}

// P11.2: each step must leave a tree that conforms, even if those behind it would mend it.
func TestApplyBetween(t *testing.T) {
	x := planted()
	stuck(t, "a bed without a plant, then with one", own(), x, row(insert(1, 2, of(bed, 8)), insert(8, 0, of(plant, 9))), 0, api.ErrForm)
	goes(t, "a bed with a plant", own(), x, row(insert(1, 2, of(bed, 8, of(plant, 9)))), "1:0(2:1(3:2),4:1(5:2,6:1(7:2)),8:1(9:2))")
	stuck(t, "four beds, then three", own(), x, row(write(3, "a"), move(6, 1, 0), insert(1, 0, of(bed, 8, of(plant, 9))), remove(8)), 2, api.ErrForm)
	x = of(garden, 1, of(bed, 2, of(plant, 3), of(plant, 4)))
	goes(t, "the first step mends it", own(), x, row(remove(4), write(3, "a")), `1:0(2:1(3:2"a"))`)
	stuck(t, "the second step would mend it", own(), x, row(write(3, "a"), remove(4)), 0, api.ErrForm)
	x = node(1, make([]api.Node, 3)...)
	goes(t, "the last id that may not be goes", lists(), node(1, node(0), node(2)), row(remove(0), remove(2)), "1:0")
	stuck(t, "ids that may not be stay", lists(), x, row(remove(0), remove(0), remove(0)), 0, api.ErrForm)
}

// P11.2: Each may be left early, at each place, and gone over again.
func TestEachEarly(t *testing.T) {
	l := row(write(4, "a"), insert(2, 0, node(5)), move(4, 5, 0), remove(3))
	want := []string{`1:0(2:0,3:0(4:0"a"))`, `1:0(2:0(5:0),3:0(4:0"a"))`, `1:0(2:0(5:0(4:0"a")),3:0)`, `1:0(2:0(5:0(4:0"a")))`}
	for _, more := range [][]api.Step{nil, row(remove(3)), row(api.Step{}, remove(2))} {
		each := changes.Each(lists(), small(), append(row(l...), more...))
		for leave := range len(l) + 2 {
			var shown []string
			for at, x := range each {
				if at != len(shown) {
					t.Error("the place", at, "behind", len(shown))
				}
				shown = append(shown, tree.Show(x))
				if at == leave {
					break
				}
			}
			if !slices.Equal(shown, want[:min(leave+1, len(want))]) {
				t.Errorf("left at %d: %v", leave, shown)
			}
		}
		for at := range each { // one going in another one
			count := 0
			for range each {
				count++
			}
			if count != len(l) {
				t.Errorf("at %d: gone over %d within", at, count)
			}
		}
	}
}
