package changes_test

import (
	"math"
	"slices"
	"testing"

	"allotment/api"
	"allotment/changes"
	"allotment/tree"
)

// node gives a node of the kind 0 in memory of its own.
func node(id int, kids ...api.Node) api.Node {
	return of(0, id, kids...)
}

// of gives a node of that kind.
func of(kind, id int, kids ...api.Node) api.Node {
	return api.Node{Id: id, Kind: kind, Kids: slices.Clone(kids)}
}

func insert(parent, place int, sub api.Node) api.Step {
	return api.Step{Op: api.StInsert, Parent: parent, Place: place, Sub: sub}
}

func remove(id int) api.Step {
	return api.Step{Op: api.StDelete, Id: id}
}

func move(id, parent, place int) api.Step {
	return api.Step{Op: api.StMove, Id: id, Parent: parent, Place: place}
}

func write(id int, text string) api.Step {
	return api.Step{Op: api.StText, Id: id, Text: text}
}

// row gives steps in memory of their own.
func row(l ...api.Step) []api.Step {
	return slices.Clone(l)
}

// lists gives a grammar of one kind, that may have a text and as many of itself as can be.
func lists() api.Grammar {
	return api.Grammar{Kinds: []api.Kind{{Name: "list", Text: true, Slots: []api.Slot{{Kinds: []int{0}, Most: api.MaxMany}}}}}
}

// The kinds of own.
const (
	garden = iota
	bed
	plant
)

// own gives a grammar: a garden has up to three beds; a bed has a plant, then up to two beds; a plant may have a text.
func own() api.Grammar {
	return api.Grammar{Root: garden, Kinds: []api.Kind{
		{Name: "garden", Slots: []api.Slot{{Kinds: []int{bed}, Most: 3}}},
		{Name: "bed", Slots: []api.Slot{{Kinds: []int{plant}, Least: 1, Most: 1}, {Kinds: []int{bed}, Most: 2}}},
		{Name: "plant", Text: true},
	}}
}

// planted gives a tree of own that conforms.
func planted() api.Node {
	return of(garden, 1, of(bed, 2, of(plant, 3)), of(bed, 4, of(plant, 5), of(bed, 6, of(plant, 7))))
}

// wrong gives grammars that may not be.
func wrong() []api.Grammar {
	return []api.Grammar{{}, {Root: 3, Kinds: own().Kinds}, {Root: -1, Kinds: own().Kinds}, {Kinds: []api.Kind{{Name: "a"}, {Name: "a"}}}}
}

// alike tells whether two steps are the same in all fields, those that their Op does not name, too.
func alike(a, b api.Step) bool {
	return a.Op == b.Op && a.Id == b.Id && a.Parent == b.Parent && a.Place == b.Place && a.Text == b.Text && tree.Same(a.Sub, b.Sub)
}

// allAlike tells whether two rows are the same, step by step, in all fields.
func allAlike(a, b []api.Step) bool {
	return slices.EqualFunc(a, b, alike)
}

// The chapter's examples.
func TestExamples(t *testing.T) {
	x := node(1, node(2))
	stuck(t, "Delete 2, Text 2", lists(), x, row(remove(2), write(2, "")), 1, api.ErrNone)
	turned(t, "Text 2 a", x, row(write(2, "a")), row(write(2, "")))
	x.Kids[0].Text = "as it was"
	turned(t, "Text 2 a, of one with a text", x, row(write(2, "a")), row(write(2, "as it was")))
}

// P11.1: how many steps a change set may have, of whatever Ops.
func TestCheckSteps(t *testing.T) {
	if changes.Check(nil) != api.OK || changes.Check([]api.Step{}) != api.OK {
		t.Error("a row of none")
	}
	for _, s := range []api.Step{write(2, "x"), remove(2), move(2, 3, 0), insert(1, 0, node(5)), {}, {Op: 5}, {Op: -1}, {Op: math.MinInt8}} {
		for _, steps := range []int{1, 2, 3, api.MaxSteps - 1, api.MaxSteps} {
			if e := changes.Check(slices.Repeat(row(s), steps)); e != api.OK {
				t.Errorf("%d steps of the Op %d: %v", steps, s.Op, e)
			}
		}
		for _, steps := range []int{api.MaxSteps + 1, api.MaxSteps + 2, 2 * api.MaxSteps, 256, 1 << 16, 100_000} {
			tooLong(t, "too many steps", slices.Repeat(row(s), steps))
		}
	}
}

// P11.1: rows of different lengths, and of the same steps in another order.
func TestSameRows(t *testing.T) {
	l := row(write(2, "a"), insert(2, 0, node(3)), remove(2), move(4, 5, 6), api.Step{})
	for from := range l {
		for to := from; to <= len(l); to++ {
			if changes.Same(l, l[from:to]) || changes.Same(l[from:to], l) {
				if len(l) != to-from {
					t.Error("the same:", from, to)
				}
			} else if len(l) == to-from {
				t.Error("a row is not the same as itself")
			}
		}
	}
	for a := range l {
		for b := range l {
			m := row(l...)
			m[a], m[b] = m[b], m[a]
			if changes.Same(l, m) != (a == b) {
				t.Error("changed places:", a, b)
			}
		}
	}
	if !changes.Same(nil, nil) || !changes.Same(nil, []api.Step{}) || !changes.Same([]api.Step{}, nil) {
		t.Error("rows of nothing and of none are not alike")
	}
	if changes.Same(nil, row(api.Step{})) || changes.Same(row(api.Step{}), nil) {
		t.Error("a row of none is the same as one of the zero step")
	}
	long := slices.Repeat(row(write(2, "a"), remove(2)), 50_000)
	if !changes.Same(long, slices.Clone(long)) || changes.Same(long, long[1:]) || changes.Same(long, long[2:]) {
		t.Error("rows that are no change sets")
	}
}

// P11.1: steps that are not the same only in what their Op does not go by, and in what it goes by, at each place of a row.
func TestSameSteps(t *testing.T) {
	full := api.Step{Id: 3, Parent: 4, Place: 5, Text: "x", Sub: node(6, node(7), node(8))}
	fields := map[string]struct {
		change func(*api.Step)
		counts []int8
	}{
		"Id":         {func(s *api.Step) { s.Id = 9 }, []int8{api.StDelete, api.StMove, api.StText}},
		"Parent":     {func(s *api.Step) { s.Parent = 9 }, []int8{api.StInsert, api.StMove}},
		"Place":      {func(s *api.Step) { s.Place = 9 }, []int8{api.StInsert, api.StMove}},
		"Text":       {func(s *api.Step) { s.Text = "y" }, []int8{api.StText}},
		"Sub":        {func(s *api.Step) { s.Sub = node(6, node(7), node(9)) }, []int8{api.StInsert}},
		"Sub's kind": {func(s *api.Step) { s.Sub.Kind = 1 }, []int8{api.StInsert}},
		"no kids":    {func(s *api.Step) { s.Sub = node(6, api.Node{Id: 7, Kids: []api.Node{}}, node(8)) }, nil},
	}
	for op := int8(-1); op <= 6; op++ {
		full.Op = op
		for name, f := range fields {
			other := full
			f.change(&other)
			want := !slices.Contains(f.counts, op)
			for at := range 4 {
				a := slices.Repeat(row(full), 4)
				b := slices.Clone(a)
				b[at] = other
				if changes.Same(a, b) != want || changes.Same(b, a) != want {
					t.Errorf("the Op %d at %d: %s: %t", op, at, name, !want)
				}
			}
		}
		other := full
		other.Op++
		if changes.Same(row(full), row(other)) {
			t.Error("another Op is the same:", op)
		}
	}
}

// P11.1: ids that are named, rising, each once.
func TestIds(t *testing.T) {
	for what, c := range map[string]struct {
		l    []api.Step
		want []int
	}{
		"none":                     {nil, nil},
		"an empty row":             {[]api.Step{}, nil},
		"the zero step":            {row(api.Step{}), []int{0}},
		"an insert":                {row(insert(7, 0, node(5, node(9), node(6, node(8))))), []int{5, 6, 7, 8, 9}},
		"a delete":                 {row(remove(3)), []int{3}},
		"a move":                   {row(move(4, 2, 0)), []int{2, 4}},
		"a text":                   {row(write(3, "x")), []int{3}},
		"an Op that is none":       {row(api.Step{Op: 5, Id: 3, Parent: 4, Sub: node(6)}), []int{3}},
		"fields that count not":    {row(api.Step{Op: api.StDelete, Id: 3, Parent: 4, Sub: node(6)}, api.Step{Op: api.StInsert, Id: 3, Parent: 4, Sub: node(6)}), []int{3, 4, 6}},
		"falling":                  {row(remove(9), write(5, ""), remove(2), remove(1)), []int{1, 2, 5, 9}},
		"one id of several steps":  {row(write(2, "a"), write(2, "b"), remove(2)), []int{2}},
		"one id, far apart":        {row(write(2, "a"), remove(7), move(5, 7, 0), write(2, "b")), []int{2, 5, 7}},
		"one id of one step":       {row(insert(5, 0, node(5, node(5), node(4), node(5)))), []int{4, 5}},
		"a move into itself":       {row(move(3, 3, 0)), []int{3}},
		"inserted, then named":     {row(insert(1, 0, node(9, node(8))), write(8, "x"), move(8, 1, 0), remove(9)), []int{1, 8, 9}},
		"below 0 and great":        {row(remove(math.MaxInt), remove(0), move(-1, math.MinInt, 0), remove(1<<32), remove(api.MaxNumber+1)), []int{math.MinInt, -1, 0, 1 << 32, api.MaxNumber + 1, math.MaxInt}},
		"ids as numbers, not text": {row(remove(10), remove(9), remove(100), remove(-10), remove(-9)), []int{-10, -9, 9, 10, 100}},
	} {
		if ids := changes.Ids(c.l); !slices.Equal(ids, c.want) {
			t.Errorf("%s: %v; want %v", what, ids, c.want)
		}
	}
	var long []api.Step
	for i := range 100_000 {
		long = append(long, remove(i*7%1000))
	}
	if ids := changes.Ids(long); len(ids) != 1000 || ids[0] != 0 || ids[999] != 999 || !slices.IsSorted(ids) {
		t.Error("a row that is no change set:", len(ids))
	}
}
