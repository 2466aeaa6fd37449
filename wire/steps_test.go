package wire_test

import (
	"math"
	"slices"
	"strings"
	"testing"

	"allotment/api"
	"allotment/wire"
)

// line gives nodes one below the other, from that id on.
func line(id, depth int) api.Node {
	x := node(id + depth - 1)
	for at := id + depth - 2; at >= id; at-- {
		x = node(at, x)
	}
	return x
}

// fan gives so many nodes, all but the first one side by side, from that id on.
func fan(id, count int) api.Node {
	x := node(id)
	for at := range count - 1 {
		x.Kids = append(x.Kids, node(id+1+at))
	}
	return x
}

// loop gives a node that has itself below it, twice.
func loop() api.Node {
	kids := make([]api.Node, 2)
	kids[0], kids[1] = api.Node{Id: 1, Kids: kids}, api.Node{Id: 2, Kids: kids}
	return kids[0]
}

// with gives a message that has such steps, and may be, if they may be sent.
func with(l ...api.Step) api.Message {
	m := good(api.MsgDelta)
	m.Steps = l
	return m
}

// steady checks whether a step may be sent: alone, and in messages, in each place.
func steady(t *testing.T, what string, s api.Step, want bool) {
	t.Helper()
	if wire.Step(s) != want {
		t.Errorf("%s: Op %d: not %v", what, s.Op, want)
	}
	for at := range 3 {
		l := slices.Insert(row(write(1, "a"), remove(2)), at, s)
		delta, commit := with(l...), good(api.MsgCommit)
		commit.Steps = l
		if !want {
			refused(t, what, delta, false)
			refused(t, what, commit, false)
			continue
		}
		sent(t, what, delta)
		sent(t, what, commit)
	}
}

// standing checks whether a tree may be sent: alone, in messages, and as a Sub.
func standing(t *testing.T, what string, x api.Node, want bool) {
	t.Helper()
	if wire.Tree(x) != want {
		t.Errorf("%s: not %v", what, want)
	}
	if wire.Step(insert(1, 0, x)) != want {
		t.Errorf("%s, as a Sub: not %v", what, want)
	}
	for _, kind := range []int8{api.MsgGrant, api.MsgTree} {
		m := good(kind)
		m.Tree = x
		if want {
			sent(t, what, m)
			sent(t, what+", as a Sub", with(insert(1, 0, x)))
		} else {
			refused(t, what, m, false)
			refused(t, what+", as a Sub", with(insert(1, 0, x)), false)
		}
	}
}

// plain gives a step of each Op with the fields alone that it names, and those fields' names.
func plain() map[string]api.Step {
	return map[string]api.Step{
		"Parent Place Sub": insert(3, 1, bough()),
		"Id":               remove(4),
		"Id Parent Place":  move(5, 6, 2),
		"Id Text":          write(7, "a"),
	}
}

// P14.1: a step of each Op, and each other Op.
func TestStepOps(t *testing.T) {
	for fields, s := range plain() {
		steady(t, fields, s, true)
		op := s.Op
		for other := math.MinInt8; other <= math.MaxInt8; other++ {
			if s.Op = int8(other); s.Op != op {
				emptied := op == api.StDelete && s.Op == api.StText // an Id alone is a text of none, too
				steady(t, fields+", another Op", s, emptied)
			}
		}
	}
	for op := math.MinInt8; op <= math.MaxInt8; op++ {
		steady(t, "the Op alone", api.Step{Op: int8(op)}, false)
	}
}

// P14.1: a step with a field that its Op does not name.
func TestStepFieldTooMany(t *testing.T) {
	sets := map[string][]func(s *api.Step){
		"Id":     {func(s *api.Step) { s.Id = 1 }, func(s *api.Step) { s.Id = -1 }, func(s *api.Step) { s.Id = s.Sub.Id }},
		"Parent": {func(s *api.Step) { s.Parent = 1 }, func(s *api.Step) { s.Parent = -1 }, func(s *api.Step) { s.Parent = s.Id }},
		"Place":  {func(s *api.Step) { s.Place = 1 }, func(s *api.Step) { s.Place = -1 }, func(s *api.Step) { s.Place = 1 << 32 }},
		"Text":   {func(s *api.Step) { s.Text = "a" }, func(s *api.Step) { s.Text = "\x00" }, func(s *api.Step) { s.Text = strings.Repeat("w", api.MaxWord+1) }},
		"Sub": {
			func(s *api.Step) { s.Sub.Id = 1 }, func(s *api.Step) { s.Sub.Kind = 1 }, func(s *api.Step) { s.Sub.Kind = -1 }, func(s *api.Step) { s.Sub.Text = "a" },
			func(s *api.Step) { s.Sub.Kids = make([]api.Node, 1) }, func(s *api.Step) { s.Sub = bough() }, func(s *api.Step) { s.Sub = fan(1, api.MaxNodes+1) },
			func(s *api.Step) { s.Sub = line(1, api.MaxDepth+1) }, func(s *api.Step) { s.Sub = loop() },
		},
	}
	for fields, s := range plain() {
		for name, l := range sets {
			if slices.Contains(strings.Fields(fields), name) {
				continue
			}
			for _, set := range l {
				full := s
				set(&full)
				steady(t, fields+" with "+name, full, false)
			}
		}
	}
}

// P14.1: kids of none and nothing are alike: such a Sub is not set.
func TestStepLists(t *testing.T) {
	for fields, s := range plain() {
		if s.Op != api.StInsert {
			s.Sub.Kids = make([]api.Node, 0, 3)
			steady(t, fields+", kids of none", s, true)
		}
	}
	x := bough()
	x.Kids[1].Kids = []api.Node{}
	steady(t, "a Sub with kids of none", insert(3, 0, x), true)
}

// P14.1: each named field at its least and its most, and one past each.
func TestStepBounds(t *testing.T) {
	sets := map[string]struct {
		set         func(s *api.Step, n int)
		least, most int
	}{
		"Id":     {func(s *api.Step, n int) { s.Id = n }, 1, api.MaxNumber},
		"Parent": {func(s *api.Step, n int) { s.Parent = n }, 1, api.MaxNumber},
		"Place":  {func(s *api.Step, n int) { s.Place = n }, 0, api.MaxNumber},
		"Text":   {func(s *api.Step, n int) { s.Text = strings.Repeat("w", n) }, 0, api.MaxWord},
		"Sub":    {func(s *api.Step, n int) { s.Sub.Id = n }, 1, api.MaxNumber},
	}
	for fields, s := range plain() {
		for _, name := range strings.Fields(fields) {
			x := sets[name]
			for _, n := range []int{x.least, x.least + 1, x.most - 1, x.most} {
				x.set(&s, n)
				steady(t, fields+": "+name, s, true)
			}
			wrong := []int{x.most + 1, x.most + 1<<13}
			if name != "Text" {
				wrong = append(wrong, x.least-1, x.least-2, math.MinInt, math.MaxInt, x.least-1<<32, 1<<62+1)
			}
			for _, n := range wrong {
				x.set(&s, n)
				steady(t, fields+": "+name, s, false)
			}
			x.set(&s, x.least)
		}
	}
	steady(t, "all at their most", insert(api.MaxNumber, api.MaxNumber, bough()), true)
	steady(t, "all at their most", move(api.MaxNumber, api.MaxNumber, api.MaxNumber), true)
}

// P14.1: as many nodes as may be, and one more, in all forms.
func TestTreeNodes(t *testing.T) {
	standing(t, "one", node(1), true)
	standing(t, "the zero node", api.Node{}, false)
	standing(t, "bough", bough(), true)
	for _, count := range []int{2, api.MaxNodes - 1, api.MaxNodes} {
		standing(t, "side by side", fan(1, count), true)
		standing(t, "in two rows", node(1, fan(2, count/2), fan(500, count-1-count/2)), true)
	}
	standing(t, "all of one id", api.Node{Id: 1, Kids: slices.Repeat([]api.Node{node(1)}, api.MaxNodes-1)}, true)
	for _, count := range []int{api.MaxNodes + 1, api.MaxNodes + 2, 10 * api.MaxNodes, 10_000} {
		standing(t, "side by side", fan(1, count), false)
		standing(t, "in two rows", node(1, fan(2, count/2), fan(500, count-1-count/2)), false)
	}
	const half = api.MaxDepth - 1
	rows := node(1, line(10, half), line(50, half), line(90, half), line(130, half), line(170, half), line(210, half)) // 187 nodes
	rows.Kids[2].Kids[0].Kids = append(rows.Kids[2].Kids[0].Kids, fan(300, 12), node(400))
	standing(t, "deep and wide", rows, true)
	rows.Kids[5].Kids = append(rows.Kids[5].Kids, node(401))
	standing(t, "deep and wide, one more", rows, false)
}

// P14.1: as deep as may be, and one deeper.
func TestTreeDepth(t *testing.T) {
	for depth := api.MaxDepth - 1; depth <= api.MaxDepth+12; depth++ {
		may := depth <= api.MaxDepth
		standing(t, "alone", line(1, depth), may)
		standing(t, "ahead", node(1, line(2, depth-1), node(500)), may)
		standing(t, "behind", node(1, node(500, node(501)), line(2, depth-1)), may)
		x := line(1, api.MaxDepth-2)
		deepest := &x
		for len(deepest.Kids) > 0 {
			deepest = &deepest.Kids[0]
		}
		deepest.Kids = []api.Node{fan(100, 50), node(200, node(201), line(202, depth-(api.MaxDepth-1)))}
		standing(t, "in the midst", x, may)
	}
}

// P14.1: ids, kinds and texts at their bounds, and one past each, of each node.
func TestTreeBounds(t *testing.T) {
	sets := map[string]struct {
		set         func(x *api.Node, n int)
		least, most int
	}{
		"Id":   {func(x *api.Node, n int) { x.Id = n }, 1, api.MaxNumber},
		"Kind": {func(x *api.Node, n int) { x.Kind = n }, 0, api.MaxKinds},
		"Text": {func(x *api.Node, n int) { x.Text = strings.Repeat("\x80", n) }, 0, api.MaxWord},
	}
	places := map[string]func(x *api.Node) *api.Node{
		"the root":   func(x *api.Node) *api.Node { return x },
		"a kid":      func(x *api.Node) *api.Node { return &x.Kids[0] },
		"far below":  func(x *api.Node) *api.Node { return &x.Kids[0].Kids[0] },
		"behind all": func(x *api.Node) *api.Node { return &x.Kids[1] },
	}
	for name, c := range sets {
		for where, of := range places {
			for _, n := range []int{c.least, c.least + 1, c.most - 1, c.most} {
				x := bough()
				c.set(of(&x), n)
				standing(t, name+" of "+where, x, true)
			}
			wrong := []int{c.most + 1, c.most + 1<<13}
			if name != "Text" {
				wrong = append(wrong, c.least-1, c.least-2, math.MinInt, math.MaxInt, c.least-1<<32, 1<<62+1)
			}
			for _, n := range wrong {
				x := bough()
				c.set(of(&x), n)
				standing(t, name+" of "+where, x, false)
			}
		}
	}
	standing(t, "ids twice", node(1, node(1), node(2), node(2)), true)
	standing(t, "a text of runes", api.Node{Id: 1, Text: strings.Repeat("\u00fc", api.MaxWord/2)}, true)
	standing(t, "a text of runes, too long", api.Node{Id: 1, Text: strings.Repeat("\u00fc", api.MaxWord/2+1)}, false)
}

// P14.1: rows of none, of just MaxSteps steps, and of one more.
func TestStepsCount(t *testing.T) {
	for _, l := range [][]api.Step{nil, {}} {
		sent(t, "none", with(l...))
		m := good(api.MsgCommit)
		m.Steps = l
		sent(t, "none", m)
	}
	for _, s := range []api.Step{write(1, "a"), remove(2), move(3, 4, 5), insert(1, 0, node(9))} {
		for _, count := range []int{1, 2, api.MaxSteps - 1, api.MaxSteps} {
			sent(t, "as many as may be", with(slices.Repeat(row(s), count)...))
		}
		for _, count := range []int{api.MaxSteps + 1, api.MaxSteps + 2, 2 * api.MaxSteps, 10_000} {
			l := slices.Repeat(row(s), count)
			refused(t, "too many", with(l...), false)
			m := good(api.MsgCommit)
			m.Steps = l
			refused(t, "too many", m, false)
		}
	}
}

// P14.1: each of a row has to be one that may be sent, the last one too.
func TestStepsEach(t *testing.T) {
	for _, wrong := range []api.Step{{}, {Op: 5}, remove(0), write(1, strings.Repeat("w", api.MaxWord+1)), insert(1, 0, api.Node{})} {
		for at := range api.MaxSteps {
			l := slices.Repeat(row(write(1, "a")), api.MaxSteps)
			l[at] = wrong
			refused(t, "a wrong one", with(l...), true)
		}
	}
}

// P14.1: inserted subtrees of just MaxNodes nodes together, and of one more.
func TestStepsNodes(t *testing.T) {
	for _, ahead := range []int{1, 2, api.MaxNodes / 2, api.MaxNodes - 2, api.MaxNodes - 1} {
		l := row(write(1, "x"), insert(1, 0, fan(1000, ahead)), remove(2), insert(1, 0, fan(2000, api.MaxNodes-ahead)), move(1, 2, 3))
		sent(t, "as many as may be", with(l...))
		l[3].Sub = fan(2000, api.MaxNodes-ahead+1)
		refused(t, "one more", with(l...), true)
		if !wire.Step(l[1]) || !wire.Step(l[3]) {
			t.Error("one of the two may not be:", ahead)
		}
	}
	many := slices.Repeat(row(insert(1, 0, fan(1, 4))), api.MaxNodes/4)
	sent(t, "in many steps", with(many...))
	refused(t, "in one more", with(append(many, insert(1, 0, node(1)))...), true)
	sent(t, "a row of moves behind", with(append(many, move(1, 2, 3))...))
}

// P14.1: steps need not go on any tree, nor differ.
func TestStepsAny(t *testing.T) {
	sent(t, "the same ids", with(insert(1, 0, node(1)), insert(1, 0, node(1)), remove(1), remove(1), move(1, 1, 0)))
}

// P14.1 to P14.3: the greatest messages that may be.
func TestGreatest(t *testing.T) {
	word := strings.Repeat("w", api.MaxWord)
	x := api.Node{Id: api.MaxNumber, Kind: api.MaxKinds, Text: word}
	x.Kids = slices.Repeat([]api.Node{x}, api.MaxNodes-1)
	for kind := first; kind <= last; kind++ {
		m := good(kind)
		for _, name := range counted() {
			_, most := bounds(kind, name)
			number(&m, name).SetInt(int64(most))
		}
		if slices.Contains(fields(kind), "Steps") {
			m.Steps = append(slices.Repeat(row(write(api.MaxNumber, word)), api.MaxSteps-1), insert(api.MaxNumber, api.MaxNumber, x))
		}
		if slices.Contains(fields(kind), "Tree") {
			m.Tree = x
		}
		sent(t, "the greatest", m)
	}
}
