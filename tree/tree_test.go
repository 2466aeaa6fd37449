package tree_test

import (
	"math"
	"math/rand"
	"reflect"
	"slices"
	"strings"
	"testing"

	"allotment/api"
	"allotment/tree"
)

// node gives a node in memory of its own.
func node(id int, kids ...api.Node) api.Node {
	return api.Node{Id: id, Kids: slices.Clone(kids)}
}

// rich gives a tree with all that there can be, in memory of its own, with room behind the kids: the id 5 stands twice, the deeper one ahead.
func rich() api.Node {
	roomy := func(kids ...api.Node) []api.Node {
		l := make([]api.Node, len(kids), len(kids)+3)
		copy(l, kids)
		for i := range l[len(l):cap(l)] {
			l[len(l):cap(l)][i] = api.Node{Id: 77, Text: "room"}
		}
		return l
	}
	return api.Node{Id: 1, Kids: roomy(
		api.Node{Id: 2, Kind: 1, Text: "a", Kids: roomy(
			api.Node{Id: -4, Kind: -1, Text: "x\"y\\z"},
			api.Node{Id: 5, Kind: 3, Kids: roomy(api.Node{Id: 6, Kids: []api.Node{}})})},
		api.Node{Id: 5, Kind: 4, Text: "late", Kids: roomy(api.Node{Id: 7})},
		api.Node{Id: math.MinInt, Kind: math.MaxInt})}
}

const richShown = `1:0(2:1"a"(-4:-1"x\"y\\z",5:3(6:0)),5:4"late"(7:0),-9223372036854775808:9223372036854775807)`

// untouched checks that a tree of rich is as it was, room included.
func untouched(t *testing.T, what string, x api.Node) {
	t.Helper()
	var equal func(a, b []api.Node) bool
	equal = func(a, b []api.Node) bool {
		return len(a) == len(b) && cap(a) == cap(b) && slices.EqualFunc(a[:cap(a)], b[:cap(b)], func(x, y api.Node) bool {
			return x.Id == y.Id && x.Kind == y.Kind && x.Text == y.Text && equal(x.Kids, y.Kids)
		})
	}
	if !equal([]api.Node{x}, []api.Node{rich()}) {
		t.Errorf("%s: what was handed in is changed: %v", what, x)
	}
}

// spoil writes over all memory that a node hands out, room included.
func spoil(x api.Node) {
	l := x.Kids[:cap(x.Kids)]
	for i := range l {
		spoil(l[i])
		l[i] = api.Node{Id: 99, Kind: 99, Text: "spoilt", Kids: []api.Node{{Id: 98}}}
	}
}

// told is what a walk is to tell of a node.
type told struct {
	depth int
	node  api.Node
}

// plainly gives what a walk is to tell, by the chapter's words.
func plainly(x api.Node, depth int) []told {
	l := []told{{depth, x}}
	for _, kid := range x.Kids {
		l = append(l, plainly(kid, depth+1)...)
	}
	return l
}

// is checks a tree, kid by kid; kids of nothing and none are alike.
func is(t *testing.T, what string, x, want api.Node) {
	t.Helper()
	if !alike(x, want) {
		t.Errorf("%s: %v; want %v", what, x, want)
	}
}

func alike(x, y api.Node) bool {
	return x.Id == y.Id && x.Kind == y.Kind && x.Text == y.Text && slices.EqualFunc(x.Kids, y.Kids, alike)
}

// ordinary are trees of all kinds, none of them deep.
func ordinary() map[string]api.Node {
	trees := map[string]api.Node{
		"zero":         {},
		"one node":     {Id: 3, Kind: 2, Text: "t"},
		"no kids":      {Id: 3, Kids: []api.Node{}},
		"rich":         rich(),
		"a line":       node(1, node(2, node(3, node(4)))),
		"a row":        node(1, node(2), node(3), node(4)),
		"left heavy":   node(1, node(2, node(3), node(4)), node(5)),
		"right heavy":  node(1, node(2), node(3, node(4), node(5))),
		"one id":       node(1, node(1, node(1)), node(1)),
		"ids below 0":  node(-1, node(-2), node(0, node(math.MinInt))),
		"up and down":  node(1, node(2, node(3, node(4, node(5)))), node(6), node(7, node(8, node(9)), node(10))),
		"many of them": node(0, slices.Repeat([]api.Node{node(1, node(2))}, 500)...),
	}
	r := rand.New(rand.NewSource(6))
	for _, name := range []string{"any 1", "any 2", "any 3", "any 4"} {
		nodes := 60
		trees[name] = anyTree(r, &nodes)
	}
	return trees
}

// anyTree gives some tree of at most so many nodes.
func anyTree(r *rand.Rand, nodes *int) api.Node {
	*nodes--
	x := api.Node{Id: r.Intn(9) - 2, Kind: r.Intn(5) - 1, Text: []string{"", "", "a", "\"", "\\", "),(", "\xff\x00"}[r.Intn(7)]}
	for *nodes > 0 && r.Intn(5) < 3 {
		x.Kids = append(x.Kids, anyTree(r, nodes))
	}
	return x
}

// The chapter's examples.
func TestExamples(t *testing.T) {
	x := api.Node{Id: 1, Kids: []api.Node{{Id: 2, Kind: 1, Text: "a"}, {Id: 3, Kind: 2}}}
	if s := tree.Show(x); s != `1:0(2:1"a",3:2)` {
		t.Error(s)
	}
	y, ok := tree.Find(x, 2)
	if s := tree.Show(y); !ok || s != `2:1"a"` {
		t.Error(s, ok)
	}
	if y, ok := tree.Find(x, 9); ok || !reflect.DeepEqual(y, api.Node{}) {
		t.Error(y, ok)
	}
}

// P6.1: depths and nodes, with all below them, each ahead of its kids, the kids in order; over again, too.
func TestWalk(t *testing.T) {
	for what, x := range ordinary() {
		want := plainly(x, 1)
		walk := tree.Walk(x)
		for range 2 {
			i := 0
			for depth, n := range walk {
				if i >= len(want) {
					t.Fatalf("%s: more than %d nodes", what, len(want))
				}
				if depth != want[i].depth {
					t.Errorf("%s, node %d: depth %d; want %d", what, i, depth, want[i].depth)
				}
				is(t, what, n, want[i].node)
				i++
			}
			if i != len(want) {
				t.Errorf("%s: %d nodes; want %d", what, i, len(want))
			}
		}
	}
	var s []string
	for depth, n := range tree.Walk(rich()) {
		s = append(s, strings.Repeat("-", depth)+tree.Show(api.Node{Id: n.Id, Kind: n.Kind, Text: n.Text}))
	}
	if got := strings.Join(s, " "); got != `-1:0 --2:1"a" ----4:-1"x\"y\\z" ---5:3 ----6:0 --5:4"late" ---7:0 ---9223372036854775808:9223372036854775807` {
		t.Error(got)
	}
}

// P6.1, R4: it may be left at any node, and gone over again; it tells nothing more then.
func TestWalkLeft(t *testing.T) {
	for what, x := range ordinary() {
		want := plainly(x, 1)
		if len(want) > 100 {
			want = want[:100]
		}
		walk := tree.Walk(x)
		for last := range want {
			i := 0
			walk(func(depth int, n api.Node) bool {
				if i > last {
					t.Fatalf("%s: goes on behind node %d, where it was left", what, last)
				}
				if depth != want[i].depth || n.Id != want[i].node.Id {
					t.Errorf("%s, node %d: depth %d, id %d", what, i, depth, n.Id)
				}
				i++
				return i <= last
			})
			if i != last+1 {
				t.Errorf("%s: %d nodes; want %d", what, i, last+1)
			}
		}
	}
}

// P6.1, R4: two goings at one time do not meet.
func TestWalkWithinWalk(t *testing.T) {
	walk := tree.Walk(rich())
	ids := tree.Ids(rich())
	i := 0
	for _, n := range walk {
		if n.Id != ids[i] {
			t.Error(i, n.Id)
		}
		i++
		k := 0
		for _, m := range walk {
			if m.Id != ids[k] {
				t.Error(i, k, m.Id)
			}
			if k++; k == i {
				break
			}
		}
	}
	if i != len(ids) {
		t.Error(i)
	}
}

// P6.1, R4: a walk tells what there was when it was asked for.
func TestWalkTellsThen(t *testing.T) {
	x := rich()
	walk := tree.Walk(x)
	spoil(x)
	x.Id, x.Kids = 9, nil
	want := plainly(rich(), 1)
	i := 0
	for depth, n := range walk {
		if i >= len(want) || depth != want[i].depth || !alike(n, want[i].node) {
			t.Fatalf("node %d: depth %d, %v", i, depth, n)
		}
		i++
	}
	if i != len(want) {
		t.Error(i)
	}
}

// P6.1, R4: what a walk tells shares memory with nothing: not with what was handed in, nor with what it tells else.
func TestWalkMemory(t *testing.T) {
	x := rich()
	walk := tree.Walk(x)
	want := plainly(rich(), 1)
	for range 2 {
		i := 0
		var all []api.Node
		for depth, n := range walk {
			if depth != want[i].depth {
				t.Errorf("node %d: depth %d", i, depth)
			}
			is(t, "told", n, want[i].node)
			all = append(all, n)
			i++
			if i%2 == 0 {
				spoil(n)
			}
		}
		if i != len(want) {
			t.Error(i)
		}
		for i := 0; i < len(all); i += 2 {
			is(t, "kept", all[i], want[i].node)
			spoil(all[i])
		}
	}
	untouched(t, "Walk", x)
}

// P6.1: the first node of that id in the walk, with all below it; none.
func TestFind(t *testing.T) {
	for what, x := range ordinary() {
		first := map[int]api.Node{}
		for _, y := range slices.Backward(plainly(x, 1)) {
			first[y.node.Id] = y.node
		}
		for id := -20; id < 20; id++ {
			want, there := first[id]
			y, ok := tree.Find(x, id)
			if ok != there {
				t.Errorf("%s: Find of %d: %v", what, id, ok)
			}
			is(t, what, y, want)
		}
	}
	x := rich()
	for id, want := range map[int]string{1: richShown, 5: "5:3(6:0)", 7: "7:0", -4: `-4:-1"x\"y\\z"`, math.MinInt: "-9223372036854775808:9223372036854775807"} {
		y, ok := tree.Find(x, id)
		if s := tree.Show(y); !ok || s != want {
			t.Errorf("Find of %d: %v, %v; want %v", id, s, ok, want)
		}
	}
	for _, id := range []int{0, -1, -5, 3, 77, math.MaxInt} { // 77 stands in the room alone
		if y, ok := tree.Find(x, id); ok || !reflect.DeepEqual(y, api.Node{}) {
			t.Errorf("Find of %d: %v, %v", id, y, ok)
		}
	}
	if y, ok := tree.Find(api.Node{Text: "t"}, 0); !ok || y.Text != "t" {
		t.Error("an id may be 0:", y, ok)
	}
}

// P6.1, R4: what Find tells is new memory.
func TestFindMemory(t *testing.T) {
	x := rich()
	for _, id := range tree.Ids(x) {
		y, _ := tree.Find(x, id)
		z, _ := tree.Find(x, id)
		spoil(y)
		untouched(t, "Find", x)
		want, _ := tree.Find(rich(), id)
		is(t, "Find", z, want)
	}
}

// P6.1: by hand.
func TestCountDepthIds(t *testing.T) {
	for _, c := range []struct {
		what         string
		x            api.Node
		count, depth int
		ids          []int
	}{
		{"zero", api.Node{}, 1, 1, []int{0}},
		{"one node", node(-7), 1, 1, []int{-7}},
		{"no kids", api.Node{Id: 3, Kids: []api.Node{}}, 1, 1, []int{3}},
		{"one kid", node(1, node(2)), 2, 2, []int{1, 2}},
		{"a line", node(1, node(2, node(3, node(4)))), 4, 4, []int{1, 2, 3, 4}},
		{"a row", node(4, node(3), node(2), node(1)), 4, 2, []int{4, 3, 2, 1}},
		{"deep ahead", node(1, node(2, node(3)), node(4)), 4, 3, []int{1, 2, 3, 4}},
		{"deep behind", node(1, node(2), node(3, node(4))), 4, 3, []int{1, 2, 3, 4}},
		{"one id", node(1, node(1), node(1)), 3, 2, []int{1, 1, 1}},
		{"rich", rich(), 8, 4, []int{1, 2, -4, 5, 6, 5, 7, math.MinInt}},
	} {
		if n := tree.Count(c.x); n != c.count {
			t.Errorf("%s: Count %d; want %d", c.what, n, c.count)
		}
		if n := tree.Depth(c.x); n != c.depth {
			t.Errorf("%s: Depth %d; want %d", c.what, n, c.depth)
		}
		if l := tree.Ids(c.x); !slices.Equal(l, c.ids) {
			t.Errorf("%s: Ids %v; want %v", c.what, l, c.ids)
		}
	}
}

// P6.1, R4: two rows of ids are two pieces of memory.
func TestIdsMemory(t *testing.T) {
	x := rich()
	a, b := tree.Ids(x), tree.Ids(x)
	clear(a[:cap(a)])
	if !slices.Equal(b, tree.Ids(rich())) {
		t.Error(b)
	}
	untouched(t, "Ids", x)
}

// P6.4: Count is how many a walk goes over, Depth the greatest that it tells, Ids those that it tells.
func TestCountDepthIdsOfWalk(t *testing.T) {
	for what, x := range ordinary() {
		count, depth := 0, 0
		var ids []int
		for d, n := range tree.Walk(x) {
			count++
			depth = max(depth, d)
			ids = append(ids, n.Id)
		}
		if tree.Count(x) != count || tree.Depth(x) != depth || !slices.Equal(tree.Ids(x), ids) {
			t.Errorf("%s: %d, %d, %v; the walk tells %d, %d, %v", what, tree.Count(x), tree.Depth(x), tree.Ids(x), count, depth, ids)
		}
	}
}

// P6.2, R4: the same in new memory.
func TestCopy(t *testing.T) {
	for what, x := range ordinary() {
		c := tree.Copy(x)
		is(t, what, c, x)
		if !reflect.DeepEqual(c, x) {
			t.Errorf("%s: kids of nothing and none are not as they were", what)
		}
	}
	x := rich()
	a, b := tree.Copy(x), tree.Copy(x)
	spoil(a)
	untouched(t, "Copy", x)
	is(t, "another copy", b, rich())
	spoil(x)
	is(t, "another copy", b, rich())
	for range 2 { // what is put behind kids doesn't come to stand in others
		c := tree.Copy(b)
		for i := range c.Kids {
			c.Kids[i].Kids = append(c.Kids[i].Kids, api.Node{Id: 55})
		}
		for i := range c.Kids {
			l := c.Kids[i].Kids
			if l[len(l)-1].Id != 55 {
				t.Error("what was put there:", l)
			}
			c.Kids[i].Kids = l[:len(l)-1]
		}
		is(t, "a copy that was put behind", c, rich())
	}
}

// P6.2, R4: kids that share memory where they come from don't in the copy.
func TestCopyOfTwins(t *testing.T) {
	twin := node(2, node(3))
	c := tree.Copy(node(1, twin, twin))
	c.Kids[0].Kids[0].Id = 9
	is(t, "Copy", c, node(1, node(2, node(9)), node(2, node(3))))
	is(t, "what was handed in", twin, node(2, node(3)))
}

// P6.2: ids, kinds, texts, kids, kid by kid.
func TestSame(t *testing.T) {
	for what, x := range ordinary() {
		for other, y := range ordinary() {
			if same := tree.Same(x, y); same != alike(x, y) {
				t.Errorf("%s, %s: %v", what, other, same)
			}
		}
	}
	for _, x := range []api.Node{
		{Id: 1}, {Kind: 1}, {Text: "1"}, {Kids: []api.Node{{}}}, {Id: -1}, {Kind: -1}, {Text: " "}, {Text: "\x00"}, {Kids: []api.Node{{}, {}}},
	} {
		if tree.Same(x, api.Node{}) || tree.Same(api.Node{}, x) || !tree.Same(x, tree.Copy(x)) {
			t.Error(x)
		}
	}
	bare := node(1, node(2))
	none := api.Node{Id: 1, Kids: []api.Node{{Id: 2, Kids: []api.Node{}}}}
	if !tree.Same(bare, none) || !tree.Same(none, bare) {
		t.Error("kids of nothing and none are alike")
	}
	for _, pair := range [][2]api.Node{
		{node(1, node(2), node(3)), node(1, node(3), node(2))},
		{node(1, node(2), node(3)), node(1, node(2, node(3)))},
		{node(1, node(2, node(3)), node(4)), node(1, node(2), node(3, node(4)))},
		{node(1, node(2, node(3), node(4))), node(1, node(2, node(3)), node(4))},
		{node(1, node(2)), node(1)},
		{node(1, node(2), node(2)), node(1, node(2))},
	} {
		if tree.Same(pair[0], pair[1]) || tree.Same(pair[1], pair[0]) {
			t.Error(tree.Show(pair[0]), tree.Show(pair[1]))
		}
	}
	x, y := rich(), rich()
	tree.Same(x, y)
	untouched(t, "Same", x)
	untouched(t, "Same", y)
}

// P6.2: one node of a tree is another one, in one thing.
func TestSameButForOne(t *testing.T) {
	x := rich()
	for i := range plainly(x, 1) {
		for what, change := range map[string]func(n *api.Node){
			"id":      func(n *api.Node) { n.Id++ },
			"kind":    func(n *api.Node) { n.Kind-- },
			"text":    func(n *api.Node) { n.Text += "x" },
			"kid":     func(n *api.Node) { n.Kids = append(slices.Clone(n.Kids), api.Node{}) },
			"kids":    func(n *api.Node) { n.Kids = append([]api.Node{{}}, n.Kids...) },
			"nothing": func(n *api.Node) {},
		} {
			y := rich()
			left := i
			change(nth(&y, &left))
			if tree.Same(x, y) != (what == "nothing") || tree.Same(y, x) != (what == "nothing") {
				t.Errorf("node %d, another %s: %v, %v", i, what, tree.Show(x), tree.Show(y))
			}
		}
	}
}

// nth gives the node that is so many behind x in the walk.
func nth(x *api.Node, left *int) *api.Node {
	if *left == 0 {
		return x
	}
	*left--
	for i := range x.Kids {
		if n := nth(&x.Kids[i], left); n != nil {
			return n
		}
	}
	return nil
}
