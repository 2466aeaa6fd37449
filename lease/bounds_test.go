package lease_test

import (
	"runtime/debug"
	"testing"

	"allotment/api"
	"allotment/lease"
)

// deep gives a line of that many nodes, 1 and so on, each one but the last with a leaf ahead of the next one, of its id below 0.
func deep(depth int) api.Node {
	x := node(depth)
	for id := depth - 1; id > 0; id-- {
		x = node(id, node(-id), x)
	}
	return x
}

// P16.1, P16.2, R1: trees as deep as they are big, on a stack that doesn't bear as many calls.
func TestDeep(t *testing.T) {
	defer debug.SetMaxStack(debug.SetMaxStack(1 << 20))
	const depth = 100_000
	x := deep(depth)
	for _, c := range []struct {
		root, node int
		in         bool
	}{
		{1, 1, true}, {1, depth, true}, {depth, 1, true}, {depth, depth, true}, {depth, depth - 1, true}, {depth / 2, depth, true},
		{-1, depth, false}, {depth, -1, false}, {-1, 1, true}, {1, -1, true}, {-1, 2, false}, {-1, -2, false},
		{1 - depth, depth - 1, true}, {1 - depth, depth, false}, {depth, 1 - depth, false}, {depth + 1, depth, false}, {depth, depth + 1, false},
	} {
		l := row(on(1, 0), on(2, c.root), on(3, c.root))
		var want api.Lease
		if c.in {
			want = l[1]
		}
		y, ok := lease.Way(x, l, c.node)
		isLease(t, "deep", y, ok, want)
		e := api.OK
		switch {
		case c.node == depth+1:
			e = api.ErrNone
		case c.in:
			e = api.ErrConflict
		}
		adds(t, "deep", x, l, on(4, c.node), e)
	}
}

// P16.1, R1: very many leases on a great tree, most of them not in the way.
func TestVeryMany(t *testing.T) {
	const kids = 100_000
	x := fan(kids)
	var l []api.Lease
	var ids []int
	for id := 1; id <= kids; id++ {
		if id != 1000 { // that one is the root
			l, ids = append(l, on(id, id)), append(ids, id)
		}
	}
	last := l[len(l)-1]
	y, ok := lease.Way(x, l, kids)
	isLease(t, "the last one", y, ok, last)
	y, ok = lease.Way(x, l[:len(l)-1], kids)
	isLease(t, "none", y, ok, api.Lease{})
	adds(t, "none in the way", x, l[:len(l)-1], on(kids, kids), api.ErrFull)
	adds(t, "the last one", x, l, on(kids+1, kids), api.ErrConflict)
	y, ok = lease.Find(l, kids)
	isLease(t, "Find", y, ok, last)
	isRow(t, "Remove", lease.Remove(l, ids[1:]), l[:1])
	if n := len(lease.Of(l, 1)); n < kids/api.MaxClients-1 || n > kids/api.MaxClients+1 {
		t.Error("Of:", n)
	}
	a := newAges(t, 2)
	ticks(t, "very many", a, l)
	ticks(t, "very many, twice", a, append(l, l...), ids...)
	ticks(t, "one is left", a, l[5:6], ids[5])
	agesAre(t, "one is left", a, map[int]int{ids[5]: 3})
}
