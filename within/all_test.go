package within_test

import (
	"slices"
	"strings"
	"testing"

	"allotment/api"
	"allotment/step"
	"allotment/tree"
	"allotment/within"
)

// lists gives a grammar of one kind, that may have a text and as many of itself as can be.
func lists() api.Grammar {
	return api.Grammar{Kinds: []api.Kind{{Name: "list", Text: true, Slots: []api.Slot{{Kinds: []int{0}, Most: api.MaxMany}}}}}
}

// The kinds of own.
const (
	garden = iota
	bed
	plant
)

// own gives a grammar: a garden has up to three beds; a bed has a plant, then up to two beds; a plant may have a text.
func own() api.Grammar {
	return api.Grammar{Root: garden, Kinds: []api.Kind{
		{Name: "garden", Slots: []api.Slot{{Kinds: []int{bed}, Most: 3}}},
		{Name: "bed", Slots: []api.Slot{{Kinds: []int{plant}, Least: 1, Most: 1}, {Kinds: []int{bed}, Most: 2}}},
		{Name: "plant", Text: true},
	}}
}

// planted gives a tree of own that conforms.
func planted() api.Node {
	return of(garden, 1, of(bed, 2, of(plant, 3)), of(bed, 4, of(plant, 5), of(bed, 6, of(plant, 7))))
}

// wrong gives grammars that may not be.
func wrong() []api.Grammar {
	return []api.Grammar{{}, {Root: 3, Kinds: own().Kinds}, {Root: -1, Kinds: own().Kinds}, {Kinds: []api.Kind{{Name: "a"}, {Name: "a"}}}}
}

// answers checks what All tells.
func answers(t *testing.T, what string, g api.Grammar, x api.Node, root int, l []api.Step, place int, want api.Errno) {
	t.Helper()
	if at, e := within.All(g, x, root, l); at != place || e != want {
		t.Errorf("%s: root %d, %d steps: %d, %v; want %d, %v", what, root, len(l), at, e, place, want)
	}
}

// goes checks that all of a row is inside and goes, and so does each beginning of it.
func goes(t *testing.T, what string, g api.Grammar, x api.Node, root int, l []api.Step) {
	t.Helper()
	for count := range len(l) + 1 {
		answers(t, what, g, x, root, l[:count], count, api.OK)
	}
}

// stops checks that the step there is the first one that is not inside or does not go, and why, whatever is behind it.
func stops(t *testing.T, what string, g api.Grammar, x api.Node, root int, l []api.Step, place int, want api.Errno) {
	t.Helper()
	goes(t, what, g, x, root, l[:place])
	for count := place + 1; count <= len(l); count++ {
		answers(t, what, g, x, root, l[:count], place, want)
	}
}

// P13.2: rows that are inside and go.
func TestAll(t *testing.T) {
	goes(t, "one of each", lists(), wide(), 3, row(write(3, "a"), insert(9, 0, node(30, node(31))), move(10, 31, 0), remove(7), write(10, "b"), move(6, 3, 1)))
	goes(t, "of own", own(), planted(), 4, row(write(7, "rose"), insert(4, 2, of(bed, 8, of(plant, 9))), move(8, 6, 1), remove(6)))
	goes(t, "the whole tree", own(), planted(), 1, row(move(6, 2, 1), remove(4), insert(1, 0, of(bed, 4, of(plant, 5)))))
	goes(t, "a leaf", own(), planted(), 5, row(write(5, "a"), write(5, "b"), write(5, "")))
	goes(t, "to where it stands", lists(), small(), 2, row(move(3, 2, 0), write(2, "")))
	goes(t, "there and back", lists(), wide(), 3, row(move(9, 8, 0), move(9, 6, 0), insert(3, 0, node(30)), remove(30), insert(3, 3, node(30))))
}

// P13.2: of none 0 and OK, if the root is there, whatever the tree and the grammar are.
func TestAllNone(t *testing.T) {
	for _, g := range append(wrong(), own(), lists()) {
		for _, l := range [][]api.Step{nil, {}, row(remove(2))[:0]} {
			for _, root := range []int{1, 2, 3, 7} {
				answers(t, "none", g, planted(), root, l, 0, api.OK)
			}
			answers(t, "none, the zero node", g, api.Node{}, 0, l, 0, api.OK)
			answers(t, "none, ids twice", g, twice(), 2, l, 0, api.OK)
			answers(t, "none, a tree that is too great", g, fan(1, most+1), most, l, 0, api.OK)
			for _, root := range []int{9, 0, -1} {
				answers(t, "none, no root", g, planted(), root, l, 0, api.ErrNone)
			}
			answers(t, "none, no root, the zero node", g, api.Node{}, 1, l, 0, api.ErrNone)
			answers(t, "none, no root, too great", g, fan(1, most+1), most+2, l, 0, api.ErrNone)
		}
	}
}

// P13.2: what is no change set is ErrLong, ahead of all else.
func TestAllLong(t *testing.T) {
	for what, l := range map[string][]api.Step{
		"too many steps":          slices.Repeat(row(write(3, "a")), api.MaxSteps+1),
		"by far":                  slices.Repeat(row(write(3, "a")), 10_000),
		"such as are outside":     slices.Repeat(row(write(1, "a")), api.MaxSteps+1),
		"such as are none":        slices.Repeat(row(api.Step{}), api.MaxSteps+1),
		"too many nodes":          row(insert(3, 0, fan(100, api.MaxNodes+1))),
		"too many, outside":       row(insert(1, 0, fan(100, api.MaxNodes+1))),
		"too many, below none":    row(insert(99, 0, fan(100, api.MaxNodes+1))),
		"too many together":       row(insert(3, 0, fan(100, 100)), remove(100), insert(3, 0, fan(100, 101))),
		"too many, far behind":    row(write(1, "a"), remove(99), api.Step{}, insert(3, 0, fan(100, api.MaxNodes+1))),
		"a Sub that has no end":   row(insert(3, 0, loop())),
		"too many, first outside": row(remove(1), insert(3, 0, line(100, api.MaxNodes+1))),
	} {
		for _, g := range append(wrong(), lists()) {
			for _, root := range []int{1, 2, 3, 9, 0, -1} { // some aren't there
				answers(t, what, g, small(), root, l, 0, api.ErrLong)
				answers(t, what+", the zero node", g, api.Node{}, root, l, 0, api.ErrLong)
			}
		}
	}
}

// P13.2: a root that is not there is ErrNone at 0, ahead of all but ErrLong.
func TestAllNoRoot(t *testing.T) {
	for what, s := range map[string]api.Step{
		"a text":              write(3, "a"),
		"a text of that id":   write(9, "a"),
		"the root that comes": insert(2, 0, node(9)),
		"none":                {},
		"no form":             insert(2, 0, of(5, 6)),
		"a delete":            remove(1),
		"a move":              move(3, 9, 0),
	} {
		for _, g := range append(wrong(), lists()) {
			for _, root := range []int{9, 0, -1, 1<<32 + 2} {
				for _, l := range [][]api.Step{row(s), row(s, s), append(slices.Repeat(row(write(2, "a")), api.MaxSteps-1), s)} {
					answers(t, what, g, small(), root, l, 0, api.ErrNone)
					answers(t, what+", the zero node", g, api.Node{Id: 7}, root, l, 0, api.ErrNone)
				}
			}
		}
	}
}

// P13.2: steps that are outside, first, in the midst, last and alone; those that do not go, too.
func TestAllOutside(t *testing.T) {
	for what, s := range map[string]api.Step{
		"text above":                     write(1, ""),
		"text aside":                     write(3, "a"),
		"text of none":                   write(99, "a"),
		"text that may not be":           write(2, strings.Repeat("w", api.MaxWord+1)),
		"insert above":                   insert(1, 0, of(bed, 20, of(plant, 21))),
		"insert aside":                   insert(2, 1, of(bed, 20, of(plant, 21))),
		"insert below none":              insert(99, 0, of(bed, 20, of(plant, 21))),
		"insert below its own":           insert(20, 0, of(bed, 20, of(plant, 21))),
		"insert, no place":               insert(1, -1, of(bed, 20)),
		"insert, an id that is there":    insert(2, 1, of(bed, 4, of(plant, 5))),
		"delete aside":                   remove(2),
		"delete one that must be":        remove(3),
		"delete none":                    remove(99),
		"delete the tree's root":         remove(1),
		"delete the root":                remove(4),
		"move it":                        move(4, 1, 0),
		"move it into itself":            move(4, 6, 1),
		"move it below itself":           move(4, 4, 1),
		"move it to none":                move(4, 99, 0),
		"move the tree's root":           move(1, 4, 0),
		"move out":                       move(6, 2, 1),
		"move up":                        move(6, 1, 0),
		"move out, to none":              move(6, 99, 0),
		"move out, no place":             move(6, 2, 9),
		"move out, no form":              move(5, 2, 0),
		"move in":                        move(2, 4, 1),
		"move in, below":                 move(3, 6, 0),
		"move in, none":                  move(99, 4, 0),
		"move aside":                     move(3, 1, 0),
		"no Op":                          {Op: 5, Id: 4, Parent: 4},
		"the zero step":                  {},
		"an Op below 0":                  {Op: -1, Id: 6, Parent: 4},
		"a Sub that is too great, aside": {Op: api.StDelete, Id: 2, Sub: fan(100, most+1)},
	} {
		good := row(write(5, "a"), insert(4, 2, of(bed, 8, of(plant, 9))), move(8, 6, 1), write(9, "b"), remove(8))
		for place := range len(good) + 1 {
			stops(t, what, own(), planted(), 4, slices.Insert(row(good...), place, s), place, api.ErrOutside)
			stops(t, what+", the last one", own(), planted(), 4, append(row(good[:place]...), s), place, api.ErrOutside)
		}
		for _, g := range wrong() {
			answers(t, what+", no grammar", g, planted(), 4, row(s), 0, api.ErrOutside)
		}
	}
}

// P13.2: step.Do's error of steps that are inside, first, in the midst, last and alone.
func TestAllErrors(t *testing.T) {
	for what, c := range map[string]struct {
		s api.Step
		e api.Errno
	}{
		"insert: no place":             {insert(4, 9, of(bed, 20, of(plant, 21))), api.ErrArg},
		"insert: the place below 0":    {insert(6, -1, of(bed, 20, of(plant, 21))), api.ErrArg},
		"insert: no id":                {insert(4, 1, of(bed, 20, of(plant, 0))), api.ErrArg},
		"insert: the zero Sub":         {insert(4, 1, api.Node{}), api.ErrArg},
		"insert: the root's id":        {insert(4, 1, of(bed, 4, of(plant, 21))), api.ErrTwice},
		"insert: an id that is in it":  {insert(4, 1, of(bed, 20, of(plant, 5))), api.ErrTwice},
		"insert: an id that is aside":  {insert(4, 1, of(bed, 20, of(plant, 3))), api.ErrTwice},
		"insert: no form":              {insert(4, 1, of(bed, 20)), api.ErrForm},
		"insert: below one without":    {insert(5, 0, of(bed, 20, of(plant, 21))), api.ErrForm},
		"delete: no form":              {remove(5), api.ErrForm},
		"move: into itself":            {move(6, 6, 0), api.ErrLoop},
		"move: below itself":           {move(6, 7, 0), api.ErrLoop},
		"move: no place":               {move(6, 4, 9), api.ErrArg},
		"move: no form":                {move(6, 4, 0), api.ErrForm},
		"text: no form":                {write(4, "x"), api.ErrForm},
		"text: too long":               {write(5, strings.Repeat("w", api.MaxWord+1)), api.ErrForm},
		"delete: a Sub that is a lot":  {api.Step{Op: api.StDelete, Id: 6, Sub: fan(100, most+1)}, api.ErrArg},
		"text: a Sub that has no end":  {api.Step{Op: api.StText, Id: 5, Sub: loop()}, api.ErrArg},
		"insert: below what is a leaf": {insert(7, 0, of(plant, 20)), api.ErrForm},
	} {
		good := row(write(5, "a"), insert(4, 2, of(bed, 8, of(plant, 9))), move(8, 6, 1), write(9, "b"), remove(8))
		for place := range len(good) + 1 {
			stops(t, what, own(), planted(), 4, slices.Insert(row(good...), place, c.s), place, c.e)
			stops(t, what+", the last one", own(), planted(), 4, append(row(good[:place]...), c.s), place, c.e)
		}
	}
	for _, g := range wrong() {
		stops(t, "a grammar that may not be", g, planted(), 4, row(write(5, "a"), write(1, "")), 0, api.ErrGrammar)
		stops(t, "step.Apply's error goes ahead", g, planted(), 4, row(insert(4, -1, of(bed, 20))), 0, api.ErrArg)
	}
	stops(t, "a tree that does not conform", own(), small(), 2, row(write(2, "a"), write(1, "")), 0, api.ErrForm)
	stops(t, "the zero node", lists(), api.Node{}, 0, row(write(0, "a")), 0, api.ErrForm)
	stops(t, "a tree that is too great", lists(), fan(1, most+1), 5, row(write(5, "a")), 0, api.ErrArg)
	stops(t, "a tree that is too great, outside", lists(), fan(1, most+1), 5, row(write(6, "a")), 0, api.ErrOutside)
}

// P13.2: the first step of several that are not inside or do not go counts, whichever it is.
func TestAllFirst(t *testing.T) {
	outside, wrong := write(1, ""), insert(4, 9, node(20))
	stops(t, "outside, then wrong", own(), planted(), 4, row(write(5, "a"), outside, wrong), 1, api.ErrOutside)
	stops(t, "wrong, then outside", own(), planted(), 4, row(write(5, "a"), wrong, outside), 1, api.ErrArg)
	stops(t, "outside twice", own(), planted(), 4, row(outside, outside), 0, api.ErrOutside)
	stops(t, "the zero step, then a loop", own(), planted(), 4, row(api.Step{}, move(6, 6, 0)), 0, api.ErrOutside)
	stops(t, "a loop, then the zero step", own(), planted(), 4, row(move(6, 6, 0), api.Step{}), 0, api.ErrLoop)
}

// P13.2: rows of just MaxSteps steps, all inside, and one that is not at each place.
func TestAllMost(t *testing.T) {
	l := slices.Repeat(row(write(3, "a"), move(3, 2, 0)), api.MaxSteps/2)
	answers(t, "just MaxSteps", lists(), small(), 2, l, api.MaxSteps, api.OK)
	answers(t, "one fewer", lists(), small(), 2, l[1:], api.MaxSteps-1, api.OK)
	answers(t, "one more", lists(), small(), 2, append(row(l...), l[0]), 0, api.ErrLong)
	for place := range l {
		m := row(l...)
		m[place] = write(4, "a")
		answers(t, "one outside", lists(), small(), 2, m, place, api.ErrOutside)
		m[place] = move(3, 2, 1)
		answers(t, "one that does not go", lists(), small(), 2, m, place, api.ErrArg)
	}
	full := row(insert(2, 0, fan(100, api.MaxNodes-4)), remove(100), insert(3, 0, fan(100, 4)))
	answers(t, "just MaxNodes nodes", lists(), small(), 2, full, 3, api.OK)
	full[2].Sub = fan(100, 5)
	answers(t, "one more", lists(), small(), 2, full, 0, api.ErrLong)
}

// P13.2: each step is asked on the tree behind those ahead of it: what came is inside, what went is not.
func TestAllOnWhatCame(t *testing.T) {
	goes(t, "inserted", lists(), small(), 2, row(insert(3, 0, node(5, node(6))), write(5, "a"), insert(6, 0, node(7)), move(3, 2, 0), move(7, 5, 0), remove(5)))
	stops(t, "ahead of its insert", lists(), small(), 2, row(write(5, "a"), insert(3, 0, node(5))), 0, api.ErrOutside)
	stops(t, "inserted, and deleted", lists(), small(), 2, row(insert(3, 0, node(5)), remove(5), write(5, "a")), 2, api.ErrOutside)
	stops(t, "deleted", lists(), small(), 2, row(remove(3), write(3, "a")), 1, api.ErrOutside)
	stops(t, "deleted, inserted below", lists(), small(), 2, row(remove(3), insert(3, 0, node(5))), 1, api.ErrOutside)
	stops(t, "deleted, moved below", lists(), small(), 2, row(insert(2, 0, node(5)), remove(3), move(5, 3, 0)), 2, api.ErrOutside)
	stops(t, "deleted twice", lists(), small(), 2, row(remove(3), remove(3)), 1, api.ErrOutside)
	stops(t, "deleted from above", lists(), wide(), 3, row(remove(7), write(10, "a")), 1, api.ErrOutside)
	goes(t, "moved ahead of it was deleted", lists(), wide(), 3, row(move(10, 6, 0), remove(7), write(10, "a")))
	goes(t, "gone, and there again", lists(), small(), 2, row(remove(3), insert(2, 0, node(3)), write(3, "a"), remove(3), insert(2, 0, node(5, node(3))), move(3, 2, 0)))
	stops(t, "the root's id does not come again", lists(), small(), 2, row(insert(3, 0, node(5)), insert(5, 0, node(2))), 1, api.ErrTwice)
	stops(t, "the root is not deleted, in the midst", lists(), small(), 2, row(insert(3, 0, node(5)), remove(2)), 1, api.ErrOutside)
}

// P13.1, P13.2: a node that came into the subtree by a step from outside is inside then, and one that went out is not.
func TestInAndOut(t *testing.T) {
	in, _ := step.Apply(small(), move(4, 3, 0))
	stops(t, "in", lists(), small(), 2, row(move(4, 3, 0), write(4, "a")), 0, api.ErrOutside)
	is(t, "ahead", small(), 2, write(4, "a"), false)
	is(t, "behind", in, 2, write(4, "a"), true)
	goes(t, "behind", lists(), in, 2, row(write(4, "a"), move(4, 2, 1), remove(4)))
	goes(t, "in, by one above", lists(), small(), 1, row(move(4, 3, 0), write(4, "a")))
	out, _ := step.Apply(small(), move(3, 4, 0))
	stops(t, "out", lists(), small(), 2, row(move(3, 4, 0), write(2, "a")), 0, api.ErrOutside)
	is(t, "ahead", small(), 2, write(3, "a"), true)
	is(t, "behind", out, 2, write(3, "a"), false)
	is(t, "behind, where it is now", out, 4, write(3, "a"), true)
	stops(t, "behind", lists(), out, 2, row(write(2, "a"), write(3, "a")), 1, api.ErrOutside)
	goes(t, "behind, where it is now", lists(), out, 4, row(write(3, "a"), remove(3)))
}

// P13.2: trees in which an id stands twice till the first step took one of them.
func TestAllTwice(t *testing.T) {
	for what, c := range map[string]struct {
		x  api.Node
		l  []api.Step
		at int
		e  api.Errno
	}{
		"the one inside went":           {node(1, node(2, node(5)), node(5)), row(remove(5), write(5, "a")), 1, api.ErrOutside},
		"both inside":                   {node(1, node(2, node(5), node(5))), row(remove(5), write(5, "a"), remove(5), write(5, "a")), 3, api.ErrOutside},
		"the one outside is ahead":      {node(1, node(5), node(2, node(5))), row(remove(5), write(5, "a")), 0, api.ErrOutside},
		"the one outside is above":      {node(5, node(2, node(5))), row(write(5, "a")), 0, api.ErrOutside},
		"one with the other below it":   {node(1, node(2, node(5, node(5)))), row(remove(5), write(2, "a"), write(5, "a")), 2, api.ErrOutside},
		"it stays twice":                {node(1, node(2, node(5)), node(5)), row(write(5, "a"), write(2, "a")), 0, api.ErrForm},
		"the root's below the root":     {node(1, node(2, node(2))), row(write(2, "a")), 0, api.ErrForm},
		"the root's, in what went":      {node(1, node(2, node(5, node(2)))), row(remove(5), write(2, "a"), remove(5)), 2, api.ErrOutside},
		"the root's later, is not it":   {node(1, node(2), node(2, node(5))), row(write(5, "a")), 0, api.ErrOutside},
		"the root's later, is deleted":  {node(1, node(2), node(2, node(5))), row(remove(2)), 0, api.ErrOutside},
		"moved behind the one outside":  {node(1, node(2, node(5, node(6)), node(7)), node(6)), row(remove(6), move(5, 7, 0), write(6, "a")), 2, api.ErrOutside},
		"the later one inside is there": {node(1, node(2, node(5, node(6)), node(6))), row(remove(5), write(6, "a"), remove(6)), 3, api.OK},
	} {
		root := 2
		if at, e := within.All(lists(), c.x, root, c.l); at != c.at || e != c.e {
			t.Errorf("%s: %s: %d, %v; want %d, %v", what, tree.Show(c.x), at, e, c.at, c.e)
		}
	}
}
