package lease_test

import (
	"math"
	"slices"
	"testing"

	"allotment/api"
	"allotment/lease"
)

// node gives a node in memory of its own.
func node(id int, kids ...api.Node) api.Node {
	return api.Node{Id: id, Kids: slices.Clone(kids)}
}

// small is the chapter's tree.
func small() api.Node {
	return node(1, node(2, node(3)), node(4))
}

// tall is a tree of several depths: 1(2(5), 3(6(9), 7(10, 11(13)), 8), 4(12)).
func tall() api.Node {
	return node(1, node(2, node(5)), node(3, node(6, node(9)), node(7, node(10), node(11, node(13))), node(8)), node(4, node(12)))
}

// twice has ids that are there more than once: 2 one above the other; 4 far apart, the deeper one ahead; 3 side by side; 1, the root's, below itself; 5 above 4's first one, and behind it.
func twice() api.Node {
	return node(1,
		node(5, node(2, node(2, node(4)), node(6))),
		node(3, node(7)),
		node(3, node(8), node(1, node(9))),
		node(4, node(10), node(5, node(11))))
}

// on gives a lease of that id on that root, all other fields of which may be, whatever the id is.
func on(id, root int) api.Lease {
	low := id & (1<<20 - 1)
	return api.Lease{Id: id, Root: root, Client: 1 + low%api.MaxClients, Epoch: 100 + low, Request: 200 + low}
}

// of gives a lease of that id and client.
func of(id, client int) api.Lease {
	return api.Lease{Id: id, Root: 300 + id, Client: client, Epoch: 100 + id, Request: 200 + id}
}

// row gives leases in memory of their own.
func row(l ...api.Lease) []api.Lease {
	return slices.Clone(l)
}

// ns gives numbers in memory of their own.
func ns(l ...int) []int {
	return slices.Clone(l)
}

// isLease checks a lease that is told, or none: want is zero then.
func isLease(t *testing.T, what string, x api.Lease, ok bool, want api.Lease) {
	t.Helper()
	if x != want || ok != (want != api.Lease{}) {
		t.Errorf("%s: %+v, %v; want %+v", what, x, ok, want)
	}
}

// isRow checks leases that are told.
func isRow(t *testing.T, what string, l, want []api.Lease) {
	t.Helper()
	if !slices.Equal(l, want) {
		t.Errorf("%s: %+v; want %+v", what, l, want)
	}
}

// The chapter's examples.
func TestExamples(t *testing.T) {
	l := row(on(1, 2))
	for node, want := range map[int]api.Lease{3: l[0], 1: l[0], 4: {}} {
		x, ok := lease.Way(small(), l, node)
		isLease(t, "Way", x, ok, want)
	}
	a := newAges(t, 2)
	ticks(t, "the first tick", a, row(on(1, 2)))
	ticks(t, "the second tick", a, row(on(1, 2)), 1)
	ticks(t, "the third tick", a, row(on(1, 2)), 1)
}

// P16.1: Find of none, of one that is not there, of one that is there twice.
func TestFind(t *testing.T) {
	twin := on(4, 9)
	least, most := on(math.MinInt, 1), on(math.MaxInt, 2)
	l := row(on(2, 5), on(4, 6), twin, on(3, 5), on(-1, 7), on(0, 8), least, most)
	for id, want := range map[int]api.Lease{
		2: l[0], 4: l[1], 3: l[3], -1: l[4], 0: l[5], math.MinInt: least, math.MaxInt: most,
		1: {}, 5: {}, -2: {}, 1<<32 + 2: {}, 102: {}, 202: {},
	} {
		x, ok := lease.Find(l, id)
		isLease(t, "Find", x, ok, want)
		for _, none := range [][]api.Lease{nil, {}, l[:0]} {
			x, ok := lease.Find(none, id)
			isLease(t, "Find of none", x, ok, api.Lease{})
		}
	}
}

// P16.1: a lease that is zero is one, too, where it is asked for.
func TestFindZero(t *testing.T) {
	if x, ok := lease.Find(make([]api.Lease, 2), 0); !ok || x != (api.Lease{}) {
		t.Error(x, ok)
	}
	if x, ok := lease.Way(node(0, node(1)), make([]api.Lease, 2), 1); !ok || x != (api.Lease{}) {
		t.Error(x, ok)
	}
}

// inWays checks of leases on one root alone of which nodes they are in the way.
func inWays(t *testing.T, what string, x api.Node, root int, want ...int) {
	t.Helper()
	l := row(on(7, root))
	for _, node := range asked(x) {
		in := slices.Contains(want, node)
		if got, ok := lease.Way(x, l, node); ok != in || in && got != l[0] || !in && got != (api.Lease{}) {
			t.Errorf("%s: Way of %d, a lease on %d: %v, %v", what, node, root, got, ok)
		}
	}
}

// P16.1: leases on the node, above it, below it and beside it; a node, and a root, that are not there.
func TestWay(t *testing.T) {
	inWays(t, "the root", tall(), 1, 1, 2, 3, 4, 5, 6, 7, 8, 9, 10, 11, 12, 13)
	inWays(t, "a first kid", tall(), 2, 1, 2, 5)
	inWays(t, "a kid", tall(), 3, 1, 3, 6, 7, 8, 9, 10, 11, 13)
	inWays(t, "a last kid", tall(), 4, 1, 4, 12)
	inWays(t, "in the midst", tall(), 7, 1, 3, 7, 10, 11, 13)
	inWays(t, "deep", tall(), 11, 1, 3, 7, 11, 13)
	inWays(t, "a deep leaf", tall(), 13, 1, 3, 7, 11, 13)
	inWays(t, "a leaf", tall(), 8, 1, 3, 8)
	inWays(t, "the last leaf", tall(), 12, 1, 4, 12)
	for _, none := range []int{14, 0, -1, 1<<32 + 3, math.MinInt, math.MaxInt} {
		inWays(t, "a root that is not there", tall(), none)
	}
	inWays(t, "a lone node", node(3), 3, 3)
	inWays(t, "a lone node, another one", node(3), 4)
	inWays(t, "nothing", node(0), 0, 0)
}

// P16.1: of several nodes of one id the first one in the walk counts, as the lease's root and as the node that is asked for.
func TestWayTwice(t *testing.T) {
	inWays(t, "the root, that is below itself, too", twice(), 1, 1, 2, 3, 4, 5, 6, 7, 8, 9, 10, 11)
	inWays(t, "one above itself", twice(), 2, 1, 2, 4, 5, 6)
	inWays(t, "one beside itself", twice(), 3, 1, 3, 7)
	inWays(t, "a deeper one ahead", twice(), 4, 1, 2, 4, 5)
	inWays(t, "a higher one ahead", twice(), 5, 1, 2, 4, 5, 6)
	inWays(t, "below a second one", twice(), 8, 1, 8)
	inWays(t, "below a second root", twice(), 9, 1, 9)
	inWays(t, "below a second leaf", twice(), 10, 1, 10)
	inWays(t, "below a second one that is deep", twice(), 11, 1, 11)
}

// P16.1: the first one in the list counts, wherever it stands in the tree, and whatever its Id is.
func TestWayFirst(t *testing.T) {
	l := row(on(9, 4), on(5, 99), on(8, 13), on(-3, 1), on(8, 7), on(2, 3))
	for at, want := range map[int]api.Lease{1: l[0], 4: l[0], 12: l[0], 13: l[2], 11: l[2], 7: l[2], 3: l[2], 10: l[3], 6: l[3], 2: l[3], 99: {}, 0: {}} {
		x, ok := lease.Way(tall(), l, at)
		isLease(t, "Way", x, ok, want)
		x, ok = lease.Way(tall(), nil, at)
		isLease(t, "Way, no lease", x, ok, api.Lease{})
	}
	l = l[4:]
	for at, want := range map[int]api.Lease{10: l[0], 3: l[0], 6: l[1], 2: {}} {
		x, ok := lease.Way(tall(), l, at)
		isLease(t, "Way", x, ok, want)
	}
}

// P16.1: Of a client that has some, one, none, and of one that is none.
func TestOf(t *testing.T) {
	l := row(of(1, 2), of(2, 3), of(3, 2), of(3, 2), of(1, 8), of(4, 2), of(5, 0), of(6, -1), of(7, 99))
	for client, want := range map[int][]api.Lease{
		2: {l[0], l[2], l[3], l[5]}, 3: {l[1]}, 8: {l[4]}, 0: {l[6]}, -1: {l[7]}, 99: {l[8]},
		1: nil, 4: nil, 9: nil, 1<<32 + 2: nil, math.MinInt: nil, math.MaxInt: nil,
	} {
		isRow(t, "Of", lease.Of(l, client), want)
		isRow(t, "Of none", lease.Of(nil, client), nil)
		isRow(t, "Of none", lease.Of([]api.Lease{}, client), nil)
	}
}

// P16.1: Remove of ids that are there, that are none of theirs, that stand twice; of leases that stand twice.
func TestRemove(t *testing.T) {
	l := row(on(1, 5), on(3, 6), on(3, 7), on(2, 5), on(0, 4), on(-1, 4), on(math.MaxInt, 1))
	for _, c := range []struct {
		ids  []int
		want []api.Lease
	}{
		{nil, l}, {[]int{}, l}, {[]int{4, 101, 5, 1<<32 + 1, math.MinInt}, l},
		{[]int{1}, l[1:]}, {[]int{1, 1}, l[1:]}, {[]int{4, 1, 9}, l[1:]},
		{[]int{3}, row(l[0], l[3], l[4], l[5], l[6])},
		{[]int{2, 3, 2}, row(l[0], l[4], l[5], l[6])},
		{[]int{0, -1}, row(l[0], l[1], l[2], l[3], l[6])},
		{[]int{math.MaxInt, -1, 0, 2}, l[:3]},
		{[]int{math.MaxInt, -1, 0, 2, 3, 1}, nil},
	} {
		isRow(t, "Remove", lease.Remove(l, c.ids), c.want)
		isRow(t, "Remove from none", lease.Remove(nil, c.ids), nil)
		isRow(t, "Remove from none", lease.Remove([]api.Lease{}, c.ids), nil)
	}
}
