package step_test

import (
	"math"
	"slices"
	"strings"
	"testing"

	"allotment/api"
	"allotment/step"
	"allotment/tree"
)

// The kinds of own.
const (
	garden = iota
	bed
	plant
)

// own gives a grammar: a garden has up to three beds; a bed has a plant, then up to two beds; a plant may have a text.
func own() api.Grammar {
	return api.Grammar{Root: garden, Kinds: []api.Kind{
		{Name: "garden", Slots: []api.Slot{{Kinds: []int{bed}, Most: 3}}},
		{Name: "bed", Slots: []api.Slot{{Kinds: []int{plant}, Least: 1, Most: 1}, {Kinds: []int{bed}, Most: 2}}},
		{Name: "plant", Text: true},
	}}
}

// of gives a node of that kind.
func of(kind, id int, kids ...api.Node) api.Node {
	return api.Node{Id: id, Kind: kind, Kids: slices.Clone(kids)}
}

// planted gives a tree of own that conforms.
func planted() api.Node {
	return of(garden, 1, of(bed, 2, of(plant, 3)), of(bed, 4, of(plant, 5), of(bed, 6, of(plant, 7))))
}

// lists gives a grammar of one kind, that may have a text and as many of itself as can be.
func lists() api.Grammar {
	return api.Grammar{Kinds: []api.Kind{{Name: "list", Text: true, Slots: []api.Slot{{Kinds: []int{0}, Most: api.MaxMany}}}}}
}

// line gives nodes one below the other, from that id on.
func line(id, depth int) api.Node {
	x := node(id + depth - 1)
	for at := id + depth - 2; at >= id; at-- {
		x = node(at, x)
	}
	return x
}

// fan gives so many nodes, all but the first one side by side, from that id on.
func fan(id, count int) api.Node {
	x := node(id)
	for at := range count - 1 {
		x.Kids = append(x.Kids, node(id+1+at))
	}
	return x
}

// done checks what Do answers: what is behind the step, or why it does not go.
func done(t *testing.T, what string, g api.Grammar, x api.Node, s api.Step, want string, e api.Errno) {
	t.Helper()
	y, is := step.Do(g, x, s)
	switch {
	case is != e:
		t.Errorf("%s: %v; want %v", what, is, e)
	case e != api.OK:
		zero(t, what, y)
	case tree.Show(y) != want:
		t.Errorf("%s: %s; want %s", what, tree.Show(y), want)
	}
}

// P9.2: steps behind which the tree conforms.
func TestDo(t *testing.T) {
	for what, c := range map[string]struct {
		s    api.Step
		want string
	}{
		"insert":          {insert(1, 2, of(bed, 8, of(plant, 9))), "1:0(2:1(3:2),4:1(5:2,6:1(7:2)),8:1(9:2))"},
		"insert below":    {insert(2, 1, of(bed, 8, of(plant, 9))), "1:0(2:1(3:2,8:1(9:2)),4:1(5:2,6:1(7:2)))"},
		"the greatest id": {insert(1, 0, of(bed, api.MaxNumber, of(plant, 9))), "1:0(1125899906842624:1(9:2),2:1(3:2),4:1(5:2,6:1(7:2)))"},
		"delete":          {remove(4), "1:0(2:1(3:2))"},
		"delete below":    {remove(6), "1:0(2:1(3:2),4:1(5:2))"},
		"move up":         {move(6, 1, 0), "1:0(6:1(7:2),2:1(3:2),4:1(5:2))"},
		"move down":       {move(2, 6, 1), "1:0(4:1(5:2,6:1(7:2,2:1(3:2))))"},
		"move in its row": {move(2, 1, 1), "1:0(4:1(5:2,6:1(7:2)),2:1(3:2))"},
		"text":            {write(7, "rose"), `1:0(2:1(3:2),4:1(5:2,6:1(7:2"rose")))`},
		"no text":         {write(2, ""), "1:0(2:1(3:2),4:1(5:2,6:1(7:2)))"},
	} {
		done(t, what, own(), planted(), c.s, c.want, api.OK)
	}
	word := strings.Repeat("w", api.MaxWord)
	done(t, "the longest text", lists(), small(), write(4, word), `1:0(2:0,3:0(4:0"`+word+`"))`, api.OK)
}

// P9.2: steps behind which the tree does not conform.
func TestDoForm(t *testing.T) {
	for what, s := range map[string]api.Step{
		"a text where none may be":    write(2, "x"),
		"the root's text":             write(1, "x"),
		"a text that is too long":     write(3, strings.Repeat("w", api.MaxWord+1)),
		"a bed without a plant":       insert(1, 0, of(bed, 8)),
		"a plant in the garden":       insert(1, 0, of(plant, 8)),
		"a plant too many":            insert(2, 1, of(plant, 8)),
		"a bed ahead of the plant":    insert(2, 0, of(bed, 8, of(plant, 9))),
		"below a plant":               insert(3, 0, of(plant, 8)),
		"a garden":                    insert(1, 0, of(garden, 8)),
		"no kind":                     insert(1, 0, of(3, 8)),
		"a kind below 0":              insert(1, 0, of(-1, 8)),
		"a text in what comes":        insert(1, 0, api.Node{Id: 8, Kind: bed, Text: "x", Kids: []api.Node{of(plant, 9)}}),
		"the only plant goes":         remove(3),
		"the only plant goes, deeper": remove(7),
		"the only plant moves":        move(3, 4, 0),
		"a plant to the root":         move(3, 1, 0),
		"a bed behind nothing":        move(6, 2, 0),
		"a bed to a plant":            move(2, 7, 0),
	} {
		done(t, what, own(), planted(), s, "", api.ErrForm)
	}
	full := planted()
	full.Kids = append(full.Kids, of(bed, 8, of(plant, 9)))
	done(t, "a fourth bed", own(), full, insert(1, 3, of(bed, 10, of(plant, 11))), "", api.ErrForm)
	done(t, "a fourth bed, moved", own(), full, move(6, 1, 0), "", api.ErrForm)
	done(t, "another root", own(), of(bed, 1, of(plant, 2)), write(2, "x"), "", api.ErrForm)
}

// P9.2: what came is asked, not what was there.
func TestDoMends(t *testing.T) {
	done(t, "a plant too many goes", own(), of(garden, 1, of(bed, 2, of(plant, 3), of(plant, 4))), remove(4), "1:0(2:1(3:2))", api.OK)
	done(t, "a plant that lacks comes", own(), of(garden, 1, of(bed, 2)), insert(2, 0, of(plant, 3)), "1:0(2:1(3:2))", api.OK)
	done(t, "a text that may not be goes", own(), api.Node{Id: 1, Text: "x"}, write(1, ""), "1:0", api.OK)
	done(t, "the first of two of one id goes", lists(), node(1, node(2, node(3)), node(2)), remove(2), "1:0(2:0)", api.OK)
	done(t, "two of one id stay two", lists(), node(1, node(2), node(2)), write(2, "x"), "", api.ErrForm)
	done(t, "an id that may not be goes", lists(), node(1, node(0), node(2)), remove(0), "1:0(2:0)", api.OK)
	done(t, "an id that may not be stays", lists(), node(1, node(0), node(2)), remove(2), "", api.ErrForm)
	done(t, "the zero node, but for its id", lists(), api.Node{}, write(0, ""), "", api.ErrForm)
}

// P9.2: the bounds of what conforms.
func TestDoBounds(t *testing.T) {
	wide := fan(1, api.MaxNodes-1)
	done(t, "MaxNodes", lists(), wide, insert(1, 0, node(1000)), strings.Replace(tree.Show(wide), "(", "(1000:0,", 1), api.OK)
	done(t, "one more", lists(), wide, insert(1, 0, line(1000, 2)), "", api.ErrForm)
	wide = fan(1, api.MaxNodes+1)
	done(t, "MaxNodes, one went", lists(), wide, remove(api.MaxNodes+1), tree.Show(fan(1, api.MaxNodes)), api.OK)
	done(t, "one more, none went", lists(), wide, write(1, ""), "", api.ErrForm)
	deep := line(1, api.MaxDepth-1)
	done(t, "MaxDepth", lists(), deep, insert(api.MaxDepth-1, 0, node(api.MaxDepth)), tree.Show(line(1, api.MaxDepth)), api.OK)
	done(t, "one deeper", lists(), deep, insert(api.MaxDepth-1, 0, line(api.MaxDepth, 2)), "", api.ErrForm)
	deep.Kids = append(deep.Kids, line(100, 2))
	done(t, "one deeper, moved", lists(), deep, move(100, api.MaxDepth-1, 0), "", api.ErrForm)
	done(t, "MaxDepth, moved", lists(), deep, move(101, api.MaxDepth-1, 0), shownMoved(), api.OK)
}

// shownMoved is a line of MaxDepth-1 nodes with 101 below the last one, and 100 behind the root's kid.
func shownMoved() string {
	x := line(1, api.MaxDepth-1)
	at := &x
	for len(at.Kids) > 0 {
		at = &at.Kids[0]
	}
	at.Kids = []api.Node{node(101)}
	x.Kids = append(x.Kids, node(100))
	return tree.Show(x)
}

// P9.2: Apply's error goes ahead of conform.Tree's, a grammar's ahead of a tree's.
func TestDoOrder(t *testing.T) {
	for what, c := range map[string]struct {
		s api.Step
		e api.Errno
	}{
		"goes":          {write(3, "x"), api.ErrGrammar},
		"no form":       {write(2, "x"), api.ErrGrammar},
		"no node":       {write(9, "x"), api.ErrNone},
		"no such place": {insert(1, 3, of(bed, 8)), api.ErrArg},
		"no such id":    {insert(1, 0, of(bed, 0)), api.ErrArg},
		"there already": {insert(1, 0, of(bed, 7)), api.ErrTwice},
		"the root":      {remove(1), api.ErrRoot},
		"the root goes": {move(1, 2, 0), api.ErrRoot},
		"a loop":        {move(4, 6, 0), api.ErrLoop},
		"no Op":         {api.Step{Op: 5, Id: 2}, api.ErrArg},
		"the zero step": {api.Step{}, api.ErrArg},
	} {
		for _, g := range []api.Grammar{{}, {Root: 3, Kinds: own().Kinds}, {Root: -1, Kinds: own().Kinds}, {Kinds: []api.Kind{{Name: "a"}, {Name: "a"}}}} {
			done(t, what, g, planted(), c.s, "", c.e)
		}
		if c.e != api.ErrGrammar {
			done(t, what, own(), planted(), c.s, "", c.e)
			wrong := planted()
			wrong.Text = "x"
			done(t, what, own(), wrong, c.s, "", c.e)
		}
	}
}

// P9.2: which id must be there.
func TestTarget(t *testing.T) {
	for _, c := range []struct{ id, parent int }{{3, 4}, {0, 4}, {3, 0}, {0, 0}, {-3, math.MinInt}, {math.MaxInt, 1 << 32}} {
		for op := math.MinInt8; op <= math.MaxInt8; op++ {
			s := api.Step{Op: int8(op), Id: c.id, Parent: c.parent, Place: 5, Text: "x", Sub: node(6)}
			want := c.id
			if s.Op == api.StInsert {
				want = c.parent
			}
			if id := step.Target(s); id != want {
				t.Error(s, id)
			}
		}
	}
}

// P9.2: which ids a step names.
func TestIds(t *testing.T) {
	for op := math.MinInt8; op <= math.MaxInt8; op++ {
		s := api.Step{Op: int8(op), Id: 3, Parent: 4, Place: 5, Text: "x", Sub: node(6, node(7, node(8)), node(9))}
		want := []int{3}
		switch s.Op {
		case api.StInsert:
			want = []int{4, 6, 7, 8, 9}
		case api.StMove:
			want = []int{3, 4}
		}
		if l := step.Ids(s); !slices.Equal(l, want) {
			t.Error(op, l, want)
		}
	}
	for what, c := range map[string]struct {
		s    api.Step
		want []int
	}{
		"the zero step":         {api.Step{}, []int{0}},
		"an insert of nothing":  {api.Step{Op: api.StInsert}, []int{0, 0}},
		"ids as they are":       {insert(5, -9, node(5, node(-1), node(5, node(math.MinInt)), node(api.MaxNumber+1))), []int{5, 5, -1, 5, math.MinInt, api.MaxNumber + 1}},
		"a move into itself":    {move(3, 3, 0), []int{3, 3}},
		"ids that may not be":   {move(-1, math.MaxInt, 0), []int{-1, math.MaxInt}},
		"a delete of no number": {remove(math.MinInt), []int{math.MinInt}},
		"a text":                {write(7, "x"), []int{7}},
	} {
		if l := step.Ids(c.s); !slices.Equal(l, c.want) {
			t.Errorf("%s: %v; want %v", what, l, c.want)
		}
	}
}

// with gives s with one thing changed.
func with(s api.Step, change func(*api.Step)) api.Step {
	change(&s)
	return s
}

// P9.2: each field counts for just the Ops that go by it.
func TestSame(t *testing.T) {
	fields := map[string]struct {
		change func(*api.Step)
		counts []int8
	}{
		"Id":       {func(s *api.Step) { s.Id = 9 }, []int8{api.StDelete, api.StMove, api.StText}},
		"Parent":   {func(s *api.Step) { s.Parent = 9 }, []int8{api.StInsert, api.StMove}},
		"Place":    {func(s *api.Step) { s.Place = 9 }, []int8{api.StInsert, api.StMove}},
		"Text":     {func(s *api.Step) { s.Text = "y" }, []int8{api.StText}},
		"no Text":  {func(s *api.Step) { s.Text = "" }, []int8{api.StText}},
		"no Sub":   {func(s *api.Step) { s.Sub = api.Node{} }, []int8{api.StInsert}},
		"Sub id":   {func(s *api.Step) { s.Sub.Id = 9 }, []int8{api.StInsert}},
		"Sub kind": {func(s *api.Step) { s.Sub.Kind = 9 }, []int8{api.StInsert}},
		"Sub text": {func(s *api.Step) { s.Sub.Text = "y" }, []int8{api.StInsert}},
		"Sub kids": {func(s *api.Step) { s.Sub.Kids = []api.Node{node(7)} }, []int8{api.StInsert}},
		"Sub deep": {func(s *api.Step) { s.Sub.Kids = []api.Node{node(7, node(9)), node(8)} }, []int8{api.StInsert}},
		"Sub turn": {func(s *api.Step) { s.Sub.Kids = []api.Node{node(8), node(7)} }, []int8{api.StInsert}},
		"Sub flat": {func(s *api.Step) { s.Sub.Kids = []api.Node{node(7, node(8))} }, []int8{api.StInsert}},
		"nothing":  {func(s *api.Step) { s.Sub.Kids = []api.Node{{Id: 7, Kids: []api.Node{}}, node(8)} }, nil},
	}
	for op := math.MinInt8; op <= math.MaxInt8; op++ {
		a := api.Step{Op: int8(op), Id: 3, Parent: 4, Place: 5, Text: "x", Sub: api.Node{Id: 6, Kind: 1, Text: "t", Kids: []api.Node{node(7), node(8)}}}
		for name, f := range fields {
			b := with(a, f.change)
			want := !slices.Contains(f.counts, a.Op)
			if step.Same(a, b) != want || step.Same(b, a) != want {
				t.Errorf("the Op %d: %s counts: %v", op, name, want)
			}
			if !step.Same(b, b) {
				t.Errorf("the Op %d: %s: not the same as itself", op, name)
			}
		}
		for other := math.MinInt8; other <= math.MaxInt8; other++ {
			b := with(a, func(s *api.Step) { s.Op = int8(other) })
			if step.Same(a, b) != (op == other) {
				t.Error("of the Ops", op, other)
			}
			if step.Same(api.Step{Op: a.Op}, api.Step{Op: b.Op}) != (op == other) {
				t.Error("of the Ops, empty steps", op, other)
			}
		}
	}
}
