package place_test

import (
	"math"
	"slices"
	"testing"

	"allotment/api"
	"allotment/place"
	"allotment/tree"
)

// roomy gives kids with room behind them, and something in it.
func roomy(kids ...api.Node) []api.Node {
	l := make([]api.Node, len(kids), len(kids)+3)
	copy(l, kids)
	for i := range l[len(l):cap(l)] {
		l[len(l):cap(l)][i] = api.Node{Id: 77, Text: "room"}
	}
	return l
}

// rich gives a tree with all that there can be, in memory of its own, with room behind the kids: the id 5 stands twice, the deeper one ahead; 77 stands in the room alone.
func rich() api.Node {
	return api.Node{Id: 1, Kids: roomy(
		api.Node{Id: 2, Kind: 1, Text: "a", Kids: roomy(
			api.Node{Id: -4, Kind: -1, Text: "x\"y\\z"},
			api.Node{Id: 5, Kind: 3, Kids: roomy(api.Node{Id: 6, Kids: []api.Node{}})})},
		api.Node{Id: 5, Kind: 4, Text: "late", Kids: roomy(api.Node{Id: 7})},
		api.Node{Id: math.MinInt, Kind: math.MaxInt})}
}

// asWas tells whether two rows are the same, room included.
func asWas(a, b []api.Node) bool {
	return len(a) == len(b) && cap(a) == cap(b) && slices.EqualFunc(a[:cap(a)], b[:cap(b)], func(x, y api.Node) bool {
		return x.Id == y.Id && x.Kind == y.Kind && x.Text == y.Text && asWas(x.Kids, y.Kids)
	})
}

// untouched checks that a tree of rich is as it was, room included.
func untouched(t *testing.T, what string, x api.Node) {
	t.Helper()
	if !asWas([]api.Node{x}, []api.Node{rich()}) {
		t.Errorf("%s: what was handed in is changed: %v", what, x)
	}
}

// spoil writes over all memory that a node hands out, room included.
func spoil(x api.Node) {
	l := x.Kids[:cap(x.Kids)]
	for i := range l {
		spoil(l[i])
		l[i] = api.Node{Id: 99, Kind: 99, Text: "spoilt", Kids: []api.Node{{Id: 98}}}
	}
}

// same checks that two trees are the same.
func same(t *testing.T, what string, x, want api.Node) {
	t.Helper()
	if !tree.Same(x, want) {
		t.Errorf("%s: %s; want %s", what, tree.Show(x), tree.Show(want))
	}
}

// ids are those of rich, and some that are not there; 77 stands in its room alone.
func ids() []int {
	return append(tree.Ids(rich()), 77, 99, 0)
}

// R4: what was handed in is as it was, whatever is asked of it.
func TestUntouched(t *testing.T) {
	x := rich()
	for _, id := range ids() {
		place.Parent(x, id)
		for range place.Above(x, id) {
		}
		place.Path(x, id)
		place.Put(x, id, node(8))
		for _, b := range ids() {
			place.Within(x, id, b)
			place.Common(x, id, b)
		}
		untouched(t, "any call", x)
	}
}

// P8.2, R4: a path is new memory, and the one that is handed to At is as it was, room included.
func TestPathMemory(t *testing.T) {
	x := rich()
	a, _ := place.Path(x, 6)
	b, _ := place.Path(x, 6)
	for i := range a[:cap(a)] {
		a[:cap(a)][i] = 9
	}
	if !slices.Equal(b, []int{0, 1, 0}) {
		t.Error("two paths share memory:", b)
	}
	untouched(t, "Path", x)
	for length := range 6 {
		all := []int{0, 1, 0, 0, 7, 7}
		place.At(x, all[:length])
		if !slices.Equal(all, []int{0, 1, 0, 0, 7, 7}) {
			t.Error("the path is changed:", length, all)
		}
	}
}

// P8.2, R4: what At tells is new memory.
func TestAtMemory(t *testing.T) {
	x := rich()
	for _, path := range [][]int{nil, {0}, {1}, {2}, {0, 0}, {0, 1}, {0, 1, 0}, {1, 0}} {
		a, _ := place.At(x, path)
		b, _ := place.At(x, path)
		want, _ := place.At(rich(), path)
		spoil(a)
		untouched(t, "At", x)
		same(t, "another At", b, want)
	}
}

// P8.2, R4: what Put tells is new memory: it shares none with the tree, nor with what was put, nor with another answer.
func TestPutMemory(t *testing.T) {
	for _, id := range tree.Ids(rich()) {
		want, _ := place.Put(rich(), id, rich())
		x, y := rich(), rich()
		a, _ := place.Put(x, id, y)
		b, _ := place.Put(x, id, y)
		spoil(a)
		untouched(t, "Put", x)
		untouched(t, "what was put", y)
		same(t, "another Put", b, want)
		spoil(x)
		spoil(y)
		same(t, "another Put", b, want)
	}
}

// P8.2, R4: what is put may be the tree itself, or a part of it, room included.
func TestPutShared(t *testing.T) {
	x := rich()
	parts := []*api.Node{&x, &x.Kids[0], &x.Kids[0].Kids[1], &x.Kids[1], &x.Kids[2]}
	for _, id := range tree.Ids(rich()) {
		for _, part := range parts {
			want, _ := place.Put(rich(), id, tree.Copy(*part))
			y, e := place.Put(x, id, *part)
			if e != api.OK {
				t.Error(id, e)
			}
			same(t, "Put of a part", y, want)
			spoil(y)
			untouched(t, "Put of a part", x)
		}
	}
}

// P8.2, R4: kids that share memory are two in what Put tells, and one of them alone is put.
func TestPutTwins(t *testing.T) {
	twin := node(2, node(3))
	x := node(1, twin, twin)
	y, _ := place.Put(x, 3, node(4))
	shown(t, "Put", y, "1:0(2:0(4:0),2:0(3:0))")
	y.Kids[1].Kids[0].Id = 9
	shown(t, "Put", y, "1:0(2:0(4:0),2:0(9:0))")
	shown(t, "what was handed in", x, "1:0(2:0(3:0),2:0(3:0))")
	y, _ = place.Put(node(1, node(2), node(3)), 2, node(5, twin, twin))
	y.Kids[0].Kids[0].Kids[0].Id = 9
	shown(t, "Put of twins", y, "1:0(5:0(2:0(9:0),2:0(3:0)),3:0)")
}
