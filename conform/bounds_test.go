package conform_test

import (
	"math"
	"runtime/debug"
	"slices"
	"strings"
	"testing"

	"allotment/api"
	"allotment/conform"
)

// line gives a line of nodes of that depth, 1 and so on.
func line(depth int) api.Node {
	x := n(depth)
	for id := depth - 1; id > 0; id-- {
		x = n(id, x)
	}
	return x
}

// flat gives a node with leaves, so many nodes in all, 1 and so on.
func flat(count int) api.Node {
	x := n(1)
	for id := 2; id <= count; id++ {
		x.Kids = append(x.Kids, n(id))
	}
	return x
}

// bush gives so many nodes, 1 and so on in the walk: each third one has the next two below it.
func bush(count int) api.Node {
	x := n(1)
	for id := 2; id <= count; id++ {
		kid := n(id)
		for range 2 {
			if id < count {
				id++
				kid.Kids = append(kid.Kids, n(id))
			}
		}
		x.Kids = append(x.Kids, kid)
	}
	return x
}

// pointers gives all nodes of x, in the walk.
func pointers(x *api.Node) []*api.Node {
	l := []*api.Node{x}
	for i := range x.Kids {
		l = append(l, pointers(&x.Kids[i])...)
	}
	return l
}

// P7.1: just MaxNodes nodes, and more.
func TestMaxNodes(t *testing.T) {
	for _, make := range []func(int) api.Node{flat, bush} {
		for _, count := range []int{1, 2, api.MaxNodes - 1, api.MaxNodes} {
			isBoth(t, "not too many", lists(), make(count), 0, api.OK)
			x := make(count)
			all := pointers(&x)
			if len(all) != count {
				t.Fatal(len(all))
			}
			all[count-1].Id = 0
			isBoth(t, "the last one is at fault", lists(), x, count-1, api.ErrForm)
		}
		for _, count := range []int{api.MaxNodes + 1, api.MaxNodes + 2, 1000, 100_000} {
			isBoth(t, "too many", lists(), make(count), 0, api.ErrForm)
			x := make(count)
			x.Kids[0].Id = 0
			isBoth(t, "too many, ahead of a node at fault", lists(), x, 0, api.ErrForm)
		}
	}
	beside := n(1, n(2), flat(api.MaxNodes))
	beside.Kids[1].Id = 0
	isBoth(t, "too many only with what is behind one at fault", lists(), beside, 0, api.ErrForm)
	x := n(1, n(0), line(api.MaxNodes-2))
	isBoth(t, "MaxNodes, and a node at fault", lists(), x, 1, api.ErrForm)
	x = n(1, n(0), line(api.MaxNodes-1))
	isBoth(t, "one more, and a node at fault", lists(), x, 0, api.ErrForm)
}

// P7.1: just MaxDepth deep, and deeper.
func TestMaxDepth(t *testing.T) {
	for depth := 1; depth <= api.MaxNodes+1; depth++ {
		at, e := 0, api.OK
		switch {
		case depth > api.MaxNodes:
			e = api.ErrForm
		case depth > api.MaxDepth:
			at, e = api.MaxDepth, api.ErrForm
		}
		isBoth(t, "a line", lists(), line(depth), at, e)
	}
	third := line(api.MaxDepth - 1)
	for i, x := range pointers(&third) {
		x.Id = 100 + i
	}
	x := n(1, n(2, n(3)), n(4, n(5)), third, n(6))
	isBoth(t, "the third kid is so deep", lists(), x, 0, api.OK)
	last := pointers(&x)[5+api.MaxDepth-2]
	last.Kids = []api.Node{n(50, n(51)), n(52)}
	isBoth(t, "the third kid is deeper", lists(), x, 5+api.MaxDepth-1, api.ErrForm)
	isSub(t, "the third kid alone", lists(), x.Kids[2], api.MaxDepth, api.ErrForm)
	last.Kids = last.Kids[1:]
	isSub(t, "the third kid alone, less deep", lists(), x.Kids[2], 0, api.OK)
	wide := line(api.MaxDepth)
	deepest := pointers(&wide)[api.MaxDepth-2]
	for id := range 50 {
		deepest.Kids = append(deepest.Kids, n(100+id))
	}
	isBoth(t, "many of the greatest depth", lists(), wide, 0, api.OK)
	deepest.Kids[20].Kids = []api.Node{n(200)}
	isBoth(t, "one deeper, below one of many", lists(), wide, api.MaxDepth-1+21, api.ErrForm)
}

// R1: trees as deep as they are big, on a small stack, and great ones.
func TestGreat(t *testing.T) {
	defer debug.SetMaxStack(debug.SetMaxStack(1 << 18))
	for _, depth := range []int{api.MaxNodes, api.MaxNodes + 1, 1000, 1_000_000} {
		x := line(depth)
		at := 0
		if depth == api.MaxNodes {
			at = api.MaxDepth
		}
		isBoth(t, "deep", lists(), x, at, api.ErrForm)
		if !conform.Node(lists(), x) || !slices.Equal(conform.Kinds(x), []int{0}) {
			t.Error("Node or Kinds of a deep tree")
		}
	}
	x := flat(1_000_000)
	isBoth(t, "flat", lists(), x, 0, api.ErrForm)
	if conform.Node(lists(), x) || len(conform.Kinds(x)) != 999_999 {
		t.Error("Node or Kinds of a flat tree")
	}
	isBoth(t, "a long text", lists(), said(n(1), strings.Repeat("t", 1<<24)), 0, api.ErrForm)
}

// R1: kids that have themselves below them have no end, but the answers have.
func TestRing(t *testing.T) {
	kids := []api.Node{n(2), n(3)}
	kids[1].Kids = kids
	x := n(1, kids...)
	isBoth(t, "a ring", lists(), x, 0, api.ErrForm)
	if !conform.Node(lists(), x) || len(conform.Kinds(x)) != 2 {
		t.Error("Node or Kinds of a ring")
	}
}

// wrongGrammars are such as may not be, for one reason each.
func wrongGrammars() map[string]api.Grammar {
	l := map[string]api.Grammar{}
	wrong := func(what string, spoil func(g *api.Grammar)) {
		g := own()
		spoil(&g)
		l[what] = g
	}
	wrong("nothing", func(g *api.Grammar) { *g = api.Grammar{} })
	wrong("no kinds", func(g *api.Grammar) { g.Kinds = []api.Kind{} })
	wrong("Root below 0", func(g *api.Grammar) { g.Root = -1 })
	wrong("Root past the last", func(g *api.Grammar) { g.Root = 5 })
	wrong("Root far below", func(g *api.Grammar) { g.Root = math.MinInt })
	wrong("Root far past", func(g *api.Grammar) { g.Root = math.MaxInt })
	wrong("no name", func(g *api.Grammar) { g.Kinds[path].Name = "" })
	wrong("a long name", func(g *api.Grammar) { g.Kinds[path].Name = strings.Repeat("p", api.MaxWord+1) })
	wrong("a name twice", func(g *api.Grammar) { g.Kinds[path].Name = "bed" })
	wrong("too many slots", func(g *api.Grammar) {
		g.Kinds[path].Slots = slices.Repeat([]api.Slot{{Kinds: []int{0}}}, api.MaxSlots+1)
	})
	wrong("a slot of no kinds", func(g *api.Grammar) { g.Kinds[path].Slots = []api.Slot{{Most: 1}} })
	wrong("a slot of a kind that is none", func(g *api.Grammar) { g.Kinds[path].Slots = []api.Slot{{Kinds: []int{5}, Most: 1}} })
	wrong("a slot's kinds do not rise", func(g *api.Grammar) { g.Kinds[path].Slots = []api.Slot{{Kinds: []int{2, 2}, Most: 1}} })
	wrong("Least below 0", func(g *api.Grammar) { g.Kinds[path].Slots = []api.Slot{{Kinds: []int{2}, Least: -1, Most: 1}} })
	wrong("Least above Most", func(g *api.Grammar) { g.Kinds[path].Slots = []api.Slot{{Kinds: []int{2}, Least: 2, Most: 1}} })
	wrong("Most above MaxMany", func(g *api.Grammar) { g.Kinds[path].Slots = []api.Slot{{Kinds: []int{2}, Most: api.MaxMany + 1}} })
	wrong("too many kinds", func(g *api.Grammar) {
		for i := range api.MaxKinds {
			g.Kinds = append(g.Kinds, api.Kind{Name: strings.Repeat("k", 1+i)})
		}
	})
	return l
}

// P7.1, P7.2: of a grammar that may not be, ErrGrammar goes ahead of all, and no node may be.
func TestWrongGrammar(t *testing.T) {
	for what, g := range wrongGrammars() {
		for _, x := range []api.Node{
			small(), {}, n(1), n(0), of(stone, 1), of(9, 1), of(-1, -1), said(n(1), "x"), n(1, n(2), n(2)),
			flat(api.MaxNodes + 1), of(stone, 1, flat(api.MaxNodes)), line(api.MaxDepth + 1), line(1000),
		} {
			isBoth(t, what, g, x, 0, api.ErrGrammar)
			if conform.Node(g, x) {
				t.Errorf("%s: Node", what)
			}
		}
		for _, x := range []api.Node{of(garden, 1), of(plant, 1), of(stone, 1), of(path, 1)} {
			if conform.Node(g, x) {
				t.Errorf("%s: Node", what)
			}
		}
	}
}
