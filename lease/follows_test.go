package lease_test

import (
	"math"
	"math/rand"
	"slices"
	"testing"

	"allotment/api"
	"allotment/lease"
	"allotment/place"
	"allotment/tree"
)

// asked are the ids of x, and some that may not be there.
func asked(x api.Node) []int {
	l := append(tree.Ids(x), -2, -1, 0, 1, 99, 1<<32+1, math.MinInt, math.MaxInt)
	slices.Sort(l)
	return slices.Compact(l)
}

// inWay tells by paths whether a lease on a root is in a node's way.
func inWay(x api.Node, root, node int) bool {
	a, ok := place.Path(x, root)
	b, there := place.Path(x, node)
	both := min(len(a), len(b))
	return ok && there && slices.Equal(a[:both], b[:both])
}

// anyTree gives some tree of at most so many nodes.
func anyTree(r *rand.Rand, most int, id func() int) api.Node {
	nodes := 1 + r.Intn(most)
	var down func() api.Node
	down = func() api.Node {
		nodes--
		x := api.Node{Id: id()}
		for nodes > 0 && r.Intn(8) < 5 {
			x.Kids = append(x.Kids, down())
		}
		return x
	}
	return down()
}

// once gives some tree, each id once.
func once(r *rand.Rand, most int) api.Node {
	ids, next := r.Perm(2*most), 0
	return anyTree(r, most, func() int { next++; return ids[next] })
}

// many gives some tree in which ids may stand more than once.
func many(r *rand.Rand, most int) api.Node {
	ids := 2 + r.Intn(most)
	return anyTree(r, most, func() int { return r.Intn(ids) - 1 })
}

// anyLeases gives some leases, such that no server makes, too.
func anyLeases(r *rand.Rand, roots []int) []api.Lease {
	var l []api.Lease
	for range r.Intn(7) {
		l = append(l, api.Lease{Id: r.Intn(8) - 1, Root: roots[r.Intn(len(roots))], Client: r.Intn(4), Epoch: r.Intn(4), Request: r.Intn(4)})
	}
	return l
}

// P16.1: of any trees and leases, what the chapter's words tell.
func TestAny(t *testing.T) {
	r := rand.New(rand.NewSource(161))
	for range 1500 {
		x := []func(*rand.Rand, int) api.Node{once, many}[r.Intn(2)](r, 15)
		ids := asked(x)
		l := anyLeases(r, ids)
		for _, n := range ids {
			var way, found api.Lease
			var of, left []api.Lease
			for _, y := range slices.Backward(l) {
				if inWay(x, y.Root, n) {
					way = y
				}
				if y.Id == n {
					found = y
				} else {
					left = append([]api.Lease{y}, left...)
				}
				if y.Client == n {
					of = append([]api.Lease{y}, of...)
				}
			}
			if y, ok := lease.Way(x, l, n); y != way || ok != slices.ContainsFunc(l, func(y api.Lease) bool { return inWay(x, y.Root, n) }) {
				t.Errorf("%s: Way of %d, %v: %v, %v", tree.Show(x), n, l, y, ok)
			}
			if y, ok := lease.Find(l, n); y != found || ok != (len(left) < len(l)) {
				t.Errorf("Find of %d, %v: %v, %v", n, l, y, ok)
			}
			isRow(t, "Of", lease.Of(l, n), of)
			isRow(t, "Remove", lease.Remove(l, ns(n)), left)
		}
	}
}

// P16.1: Remove of several is one behind the other, in any order.
func TestRemoveAny(t *testing.T) {
	r := rand.New(rand.NewSource(162))
	for range 1000 {
		l := anyLeases(r, ns(1, 2, 3))
		var ids []int
		want := l
		for range r.Intn(5) {
			ids = append(ids, r.Intn(10)-2)
			want = lease.Remove(want, ids[len(ids)-1:])
		}
		isRow(t, "Remove", lease.Remove(l, ids), want)
		slices.Reverse(ids)
		isRow(t, "Remove", lease.Remove(l, ids), want)
	}
}

// plainly tells by the chapter's words what Add answers.
func plainly(x api.Node, l []api.Lease, y api.Lease) api.Errno {
	if y.Id < 1 || y.Epoch < 1 || y.Request < 1 || y.Client < 1 || y.Client > api.MaxClients {
		return api.ErrArg
	}
	if _, there := place.Path(x, y.Root); !there {
		return api.ErrNone
	}
	for _, other := range l {
		if y.Id <= other.Id {
			return api.ErrTwice
		}
	}
	for _, other := range l {
		if inWay(x, other.Root, y.Root) {
			return api.ErrConflict
		}
	}
	if len(l) >= api.MaxLeases {
		return api.ErrFull
	}
	return api.OK
}

// P16.2: of any trees and leases, what the chapter's words tell.
func TestAddAny(t *testing.T) {
	r := rand.New(rand.NewSource(163))
	for range 20_000 {
		x := []func(*rand.Rand, int) api.Node{once, many}[r.Intn(2)](r, 15)
		l := anyLeases(r, asked(x))
		ids := asked(x)
		y := api.Lease{Id: r.Intn(14), Root: ids[r.Intn(len(ids))], Client: r.Intn(10), Epoch: r.Intn(9), Request: r.Intn(9)}
		adds(t, tree.Show(x), x, l, y, plainly(x, l, y))
	}
}

// areApart checks that no lease is in another one's way.
func areApart(t *testing.T, x api.Node, l []api.Lease) {
	t.Helper()
	for k, y := range l {
		others := slices.Delete(slices.Clone(l), k, k+1)
		if z, ok := lease.Way(x, others, y.Root); ok {
			t.Errorf("%s: %v is in the way of %v", tree.Show(x), z, y)
		}
		for _, z := range others {
			if inWay(x, z.Root, y.Root) {
				t.Errorf("%s: %v is in the way of %v", tree.Show(x), z, y)
			}
		}
	}
}

// P16.4: of leases made by Add and Remove alone, in any order, no one is in another's way; Add refuses just what is, or what has one of the other reasons.
func TestApart(t *testing.T) {
	for seed := range int64(60) {
		r := rand.New(rand.NewSource(seed))
		x := []func(*rand.Rand, int) api.Node{once, many}[seed%2](r, 120)
		if seed%10 == 0 {
			x = fan(50)
		}
		roots, next, most := asked(x), 1, 0
		var l []api.Lease
		for range 150 {
			if len(l) > 0 && r.Intn(5) == 0 {
				l = lease.Remove(l, ns(l[r.Intn(len(l))].Id, r.Intn(next+1)))
			}
			y := api.Lease{Id: next - r.Intn(8)/7, Root: roots[r.Intn(len(roots))], Client: 1 + r.Intn(8), Epoch: next, Request: 1}
			m, e := lease.Add(x, l, y)
			if want := plainly(x, l, y); e != want {
				t.Errorf("%s: %v to %v: %v; want %v", tree.Show(x), y, l, e, want)
			}
			if e == api.OK {
				l, next = m, y.Id+1+r.Intn(3)
			}
			areApart(t, x, l)
			most = max(most, len(l))
		}
		if most > api.MaxLeases || seed%10 == 0 && most < api.MaxLeases {
			t.Error(most, "leases")
		}
		if t.Failed() {
			t.Fatal("seed", seed)
		}
	}
}

// P16.4: whether leases are in one another's way doesn't hang on which of them is there first.
func TestEitherWay(t *testing.T) {
	r := rand.New(rand.NewSource(164))
	for range 300 {
		x := []func(*rand.Rand, int) api.Node{once, many}[r.Intn(2)](r, 12)
		for _, a := range asked(x) {
			for _, b := range asked(x) {
				_, one := lease.Way(x, row(on(1, a)), b)
				_, other := lease.Way(x, row(on(1, b)), a)
				if one != other || one != (place.Within(x, a, b) || place.Within(x, b, a)) {
					t.Errorf("%s: %d, %d: %v, %v", tree.Show(x), a, b, one, other)
				}
			}
		}
	}
}
