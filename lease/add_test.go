package lease_test

import (
	"math"
	"slices"
	"testing"

	"allotment/api"
	"allotment/lease"
)

// adds checks what comes of adding x.
func adds(t *testing.T, what string, tree api.Node, l []api.Lease, x api.Lease, want api.Errno) {
	t.Helper()
	m, e := lease.Add(tree, l, x)
	switch {
	case e != want:
		t.Errorf("%s: %+v to %+v: %v; want %v", what, x, l, e, want)
	case e != api.OK && len(m) > 0:
		t.Errorf("%s: beside %v: %+v", what, e, m)
	case e == api.OK && !slices.Equal(m, append(slices.Clone(l), x)):
		t.Errorf("%s: %+v to %+v: %+v", what, x, l, m)
	}
}

// fan gives a root 1000 with so many kids, 1 and so on.
func fan(kids int) api.Node {
	x := node(1000)
	for id := 1; id <= kids; id++ {
		x.Kids = append(x.Kids, node(id))
	}
	return x
}

// fill gives so many leases on the kids of a fan.
func fill(count int) []api.Lease {
	var l []api.Lease
	for id := 1; id <= count; id++ {
		l = append(l, on(id, id))
	}
	return l
}

// P16.2: to none, and behind others.
func TestAdd(t *testing.T) {
	for _, none := range [][]api.Lease{nil, {}} {
		for root := 1; root <= 13; root++ {
			adds(t, "to none", tall(), none, on(1, root), api.OK)
		}
	}
	l := row(on(1, 7), on(4, 2))
	adds(t, "behind others", tall(), l, on(5, 4), api.OK)
	adds(t, "beside one that is below the same", tall(), l, on(9, 6), api.OK)
	adds(t, "of the same client, epoch and request", tall(), l, api.Lease{Id: 5, Root: 4, Client: l[0].Client, Epoch: l[0].Epoch, Request: l[0].Request}, api.OK)
	adds(t, "of an epoch below the others'", tall(), l, api.Lease{Id: 5, Root: 4, Client: 1, Epoch: 1, Request: 1}, api.OK)
	adds(t, "root 0", node(0), nil, on(1, 0), api.OK)
	adds(t, "a root below 0", node(2, node(-5)), nil, on(1, -5), api.OK)
}

// P16.2: Id, Epoch, Request and Client at their least and one below, Client at its most and one past.
func TestAddArg(t *testing.T) {
	fields := map[string]func(*api.Lease) *int{
		"Id":      func(x *api.Lease) *int { return &x.Id },
		"Epoch":   func(x *api.Lease) *int { return &x.Epoch },
		"Request": func(x *api.Lease) *int { return &x.Request },
		"Client":  func(x *api.Lease) *int { return &x.Client },
	}
	for what, field := range fields {
		for _, n := range []int{1, 2, api.MaxClients, api.MaxClients + 1, api.MaxNumber, api.MaxNumber + 1, math.MaxInt, 1<<32 + 1, 1 << 32, 257, 256, 0, -1, -(1 << 32) + 1, math.MinInt} {
			x, want := on(3, 4), api.OK
			*field(&x) = n
			if n < 1 || what == "Client" && n > api.MaxClients {
				want = api.ErrArg
			}
			adds(t, what, tall(), nil, x, want)
		}
	}
	adds(t, "nothing", tall(), nil, api.Lease{}, api.ErrArg)
	adds(t, "all at the least", tall(), nil, api.Lease{Id: 1, Root: 1, Client: 1, Epoch: 1, Request: 1}, api.OK)
}

// P16.2: a Root that is not in the tree.
func TestAddNone(t *testing.T) {
	for _, root := range []int{0, -1, 14, 99, 1<<32 + 1, math.MinInt, math.MaxInt} {
		adds(t, "no such root", tall(), nil, on(1, root), api.ErrNone)
		adds(t, "no such root", tall(), row(on(1, 2)), on(2, root), api.ErrNone)
	}
}

// P16.2: an Id equal to, below and above the greatest of the others, wherever that one stands.
func TestAddTwice(t *testing.T) {
	for _, ids := range [][]int{{5}, {2, 5}, {5, 2}, {2, 5, 3}, {5, 5}, {-9, 5, 0}} {
		var l []api.Lease
		for k, id := range ids {
			l = append(l, on(id, []int{2, 6, 8}[k]))
		}
		for id := 1; id <= 5; id++ {
			adds(t, "not above the others", tall(), l, on(id, 4), api.ErrTwice)
		}
		for _, id := range []int{6, 7, 1 << 32, 1<<32 + 5, math.MaxInt} {
			adds(t, "above the others", tall(), l, on(id, 4), api.OK)
		}
	}
	adds(t, "behind the greatest", tall(), row(on(math.MaxInt, 2)), on(math.MaxInt, 4), api.ErrTwice)
	adds(t, "behind the greatest", tall(), row(on(math.MaxInt, 2)), on(math.MaxInt-1, 4), api.ErrTwice)
	adds(t, "behind those that are no leases", tall(), row(on(math.MinInt, 2), on(0, 3)), on(1, 4), api.OK)
}

// P16.2: a lease in the way above, below and at the root, as the first of the list, the last, and in the midst.
func TestAddConflict(t *testing.T) {
	for _, other := range []int{1, 3, 7, 10, 11, 13} {
		for _, l := range [][]api.Lease{
			row(on(1, other)), row(on(1, other), on(2, 2), on(3, 4)), row(on(1, 2), on(2, other), on(3, 4)), row(on(1, 2), on(2, 4), on(3, other)),
		} {
			adds(t, "in the way", tall(), l, on(4, 7), api.ErrConflict)
		}
	}
	for _, other := range []int{2, 4, 5, 6, 8, 9, 12, 99, 0} {
		adds(t, "beside", tall(), row(on(1, other)), on(4, 7), api.OK)
	}
	adds(t, "below a second one of that id", twice(), row(on(1, 3)), on(2, 8), api.OK)
	adds(t, "above a second one of that id", twice(), row(on(1, 10)), on(2, 4), api.OK)
	adds(t, "below the first one of that id", twice(), row(on(1, 3)), on(2, 7), api.ErrConflict)
}

// P16.2: MaxLeases leases, one less and one more.
func TestAddFull(t *testing.T) {
	for count := range 2 * api.MaxLeases {
		want := api.OK
		if count >= api.MaxLeases {
			want = api.ErrFull
		}
		adds(t, "so many leases", fan(100), fill(count), on(count+1, count+1), want)
	}
	adds(t, "all of one client", fan(100), slices.Repeat(row(on(1, 3)), api.MaxLeases), on(2, 2), api.ErrFull)
	adds(t, "roots that are not there", fan(4), fill(api.MaxLeases)[3:], on(99, 2), api.OK)
}

// trial is a call of Add.
type trial struct {
	tree api.Node
	l    []api.Lease
	x    api.Lease
}

// reason is an error, and what makes a trial fail for it.
type reason struct {
	e    api.Errno
	fail func(*trial)
}

// reasons are in the order in which they are told.
func reasons() []reason {
	return []reason{
		{api.ErrArg, func(y *trial) { y.x.Id = 0 }},
		{api.ErrArg, func(y *trial) { y.x.Epoch = 0 }},
		{api.ErrArg, func(y *trial) { y.x.Request = -1 }},
		{api.ErrArg, func(y *trial) { y.x.Client = 0 }},
		{api.ErrArg, func(y *trial) { y.x.Client = api.MaxClients + 1 }},
		{api.ErrNone, func(y *trial) { y.x.Root = 500 }},
		{api.ErrTwice, func(y *trial) { y.l[2].Id = y.x.Id }},
		{api.ErrConflict, func(y *trial) { y.l[1].Root = y.x.Root }},
		{api.ErrConflict, func(y *trial) { y.l[0].Root = 1000 }},
		{api.ErrFull, func(y *trial) { y.l = append(y.l, on(90, 51), on(91, 52)) }},
	}
}

// P16.2: each two of the reasons, and any others of them, at once: the one that is told first.
func TestAddOrder(t *testing.T) {
	all := reasons()
	for set := range 1 << len(all) {
		y, want := trial{fan(100), fill(api.MaxLeases - 1), on(99, 99)}, api.OK
		for k, r := range all {
			if set>>k&1 == 0 {
				continue
			}
			r.fail(&y)
			if want == api.OK {
				want = r.e
			}
		}
		adds(t, "several reasons", y.tree, y.l, y.x, want)
	}
}
