package lease_test

import (
	"slices"
	"testing"

	"allotment/api"
	"allotment/lease"
)

// roomy gives kids with room behind them, and something in it.
func roomy(kids ...api.Node) []api.Node {
	l := make([]api.Node, len(kids), len(kids)+3)
	copy(l, kids)
	for i := range l[len(l):cap(l)] {
		l[len(l):cap(l)][i] = api.Node{Id: 77, Text: "room"}
	}
	return l
}

// rich gives a tree in memory of its own, with room behind the kids; 77 stands in the room alone.
func rich() api.Node {
	return api.Node{Id: 1, Kind: 2, Text: "a", Kids: roomy(
		api.Node{Id: 2, Kids: roomy(api.Node{Id: 3, Text: "b"}, api.Node{Id: 4, Kids: roomy()})},
		api.Node{Id: 5, Kids: roomy(api.Node{Id: 6, Kids: roomy(api.Node{Id: 7})})},
		api.Node{Id: 8})}
}

// asWas tells whether two rows of nodes are the same, room included.
func asWas(a, b []api.Node) bool {
	return len(a) == len(b) && cap(a) == cap(b) && slices.EqualFunc(a[:cap(a)], b[:cap(b)], func(x, y api.Node) bool {
		return x.Id == y.Id && x.Kind == y.Kind && x.Text == y.Text && asWas(x.Kids, y.Kids)
	})
}

// roomyRow gives leases with room behind them, and something in it.
func roomyRow(l ...api.Lease) []api.Lease {
	return append(l, on(77, 3), on(78, 8), on(79, 7))[:len(l)]
}

// given are what is handed in, in memory of its own.
type given struct {
	tree api.Node
	l    []api.Lease
	ids  []int
}

// gives gives leases on 3 and 6, and ids, with room behind them.
func gives() given {
	return given{rich(), roomyRow(on(1, 3), on(4, 6)), []int{4, 9, 4, 77, 1}[:3]}
}

// untouched checks that all is as it was, room included.
func (g given) untouched(t *testing.T, what string) {
	t.Helper()
	want := gives()
	if !asWas([]api.Node{g.tree}, []api.Node{want.tree}) || !slices.Equal(g.ids[:5], want.ids[:5]) || !slices.Equal(g.l[:5], want.l[:5]) {
		t.Errorf("%s: what was handed in is changed: %v", what, g)
	}
}

// spoil writes over all memory of a list, room included.
func spoil[T any](l []T, with T) {
	for i := range l[:cap(l)] {
		l[:cap(l)][i] = with
	}
}

// R4: what was handed in is as it was, room behind lists included.
func TestUntouched(t *testing.T) {
	g := gives()
	for _, id := range []int{1, 2, 3, 4, 5, 6, 7, 8, 77, 0} {
		lease.Find(g.l, id)
		lease.Of(g.l, id)
		lease.Way(g.tree, g.l, id)
		lease.Add(g.tree, g.l, on(9, id))
		lease.Add(g.tree, g.l[:1], on(9, id))
		lease.Add(g.tree, g.l[:0], on(9, id))
		g.untouched(t, "any call")
	}
	lease.Remove(g.l, g.ids)
	lease.Remove(g.l[:1], g.ids[:1])
	lease.Remove(g.l, nil)
	g.untouched(t, "Remove")
	a := newAges(t, 1)
	a.Tick(g.l)
	a.Tick(g.l[:0])
	g.untouched(t, "Tick")
}

// P16.1: what stands in the room behind lists counts nowhere.
func TestRoom(t *testing.T) {
	g := gives()
	for _, id := range []int{77, 78, 79} {
		x, ok := lease.Find(g.l, id)
		isLease(t, "Find in the room", x, ok, api.Lease{})
		isRow(t, "Of in the room", lease.Of(g.l[:0], on(id, 1).Client), nil)
	}
	inWays(t, "in the room", g.tree, 77)
	x, ok := lease.Way(g.tree, g.l, 8)
	isLease(t, "Way in the room", x, ok, api.Lease{})
	adds(t, "beside the room", g.tree, g.l, on(5, 8), api.OK)
	isRow(t, "Remove of the room's", lease.Remove(g.l, g.ids[:2]), g.l[:1])
	a := newAges(t, 1)
	ticks(t, "the room", a, g.l, 1, 4)
	agesAre(t, "the room", a, map[int]int{1: 1, 4: 1})
}

// R4: what is told is new memory: it shares none with what was handed in, nor with another answer.
func TestNewMemory(t *testing.T) {
	for what, call := range map[string]func(given) []api.Lease{
		"Of":            func(g given) []api.Lease { return lease.Of(g.l, g.l[0].Client) },
		"Remove":        func(g given) []api.Lease { return lease.Remove(g.l, g.ids) },
		"Remove none":   func(g given) []api.Lease { return lease.Remove(g.l, nil) },
		"Remove all":    func(g given) []api.Lease { return lease.Remove(g.l, []int{1, 4}) },
		"Add":           func(g given) []api.Lease { m, _ := lease.Add(g.tree, g.l, on(9, 8)); return m },
		"Add to none":   func(g given) []api.Lease { m, _ := lease.Add(g.tree, g.l[:0], on(9, 8)); return m },
		"Add to nil":    func(g given) []api.Lease { m, _ := lease.Add(g.tree, nil, on(9, 8)); return m },
		"Add to a part": func(g given) []api.Lease { m, _ := lease.Add(g.tree, g.l[:1:1], on(9, 8)); return m },
	} {
		want := call(gives())
		g := gives()
		one, other := call(g), call(g)
		spoil(one, on(55, 55))
		g.untouched(t, what)
		isRow(t, what+", another answer", other, want)
		spoil(g.l, on(56, 56))
		spoil(g.ids, 56)
		isRow(t, what+", spoilt", other, want)
	}
}

// P16.3, R4: what Tick tells is new memory, and what it was handed in is not kept.
func TestTickMemory(t *testing.T) {
	a, l := newAges(t, 2), ids(1, 2, 3)
	ticks(t, "a first one", a, l)
	spoil(l, on(9, 9))
	ticks(t, "a second one", a, ids(1, 2), 1, 2)
	over := a.Tick(ids(2, 1))
	spoil(over, 9)
	agesAre(t, "spoilt", a, map[int]int{1: 3, 2: 3})
	other := a.Tick(ids(1, 2))
	ticks(t, "one more", a, ids(2, 1), 2, 1)
	if !slices.Equal(other, ns(1, 2)) {
		t.Error("two answers share memory:", other)
	}
}
