package place_test

import (
	"math"
	"reflect"
	"slices"
	"testing"

	"allotment/api"
	"allotment/place"
	"allotment/tree"
)

// node gives a node in memory of its own.
func node(id int, kids ...api.Node) api.Node {
	return api.Node{Id: id, Kids: slices.Clone(kids)}
}

// small is the tree of the chapter's examples.
func small() api.Node {
	return node(1, node(2), node(3, node(4), node(5)))
}

// twice has ids that are there more than once: 1, the root's, below itself; 2 one above the other; 3 side by side; 4 far apart, the deeper one ahead.
func twice() api.Node {
	return node(1,
		node(2, node(2, node(4), node(5)), node(6)),
		node(3, node(7)),
		node(3, node(8), node(1, node(9))),
		node(4, node(10)))
}

// shown checks a tree by its text.
func shown(t *testing.T, what string, x api.Node, want string) {
	t.Helper()
	if s := tree.Show(x); s != want {
		t.Errorf("%s: %s; want %s", what, s, want)
	}
}

// zero checks that a node is none.
func zero(t *testing.T, what string, x api.Node) {
	t.Helper()
	if x.Id != 0 || x.Kind != 0 || x.Text != "" || len(x.Kids) > 0 {
		t.Errorf("%s: %v; want the zero node", what, x)
	}
}

// above gives what Above tells, gone over once.
func above(x api.Node, id int) []int {
	return slices.Collect(place.Above(x, id))
}

// The chapter's examples.
func TestExamples(t *testing.T) {
	if parent, at, ok := place.Parent(small(), 5); parent != 3 || at != 1 || !ok {
		t.Error(parent, at, ok)
	}
	if path, ok := place.Path(small(), 5); !slices.Equal(path, []int{1, 1}) || !ok {
		t.Error(path, ok)
	}
	if c, ok := place.Common(small(), 4, 5); c != 3 || !ok {
		t.Error(c, ok)
	}
	if c, ok := place.Common(small(), 2, 5); c != 1 || !ok {
		t.Error(c, ok)
	}
	if l := above(small(), 4); !slices.Equal(l, []int{3, 1}) {
		t.Error(l)
	}
}

// standing is what is to be told of one id.
type standing struct {
	id, parent, place int
	ok                bool // has it a parent?
	above, path       []int
	there             bool
}

// stands checks what Parent, Above and Path tell.
func stands(t *testing.T, what string, x api.Node, want standing) {
	t.Helper()
	parent, at, ok := place.Parent(x, want.id)
	if parent != want.parent || at != want.place || ok != want.ok {
		t.Errorf("%s: Parent of %d: %d, %d, %v; want %+v", what, want.id, parent, at, ok, want)
	}
	if l := above(x, want.id); !slices.Equal(l, want.above) {
		t.Errorf("%s: Above of %d: %v; want %v", what, want.id, l, want.above)
	}
	path, there := place.Path(x, want.id)
	if !slices.Equal(path, want.path) || there != want.there {
		t.Errorf("%s: Path of %d: %v, %v; want %v, %v", what, want.id, path, there, want.path, want.there)
	}
}

// P8.1, P8.2: Parent, Above and Path by hand.
func TestStands(t *testing.T) {
	for _, want := range []standing{
		{id: 1, there: true},
		{2, 1, 0, true, []int{1}, []int{0}, true},
		{3, 1, 1, true, []int{1}, []int{1}, true},
		{4, 3, 0, true, []int{3, 1}, []int{1, 0}, true},
		{5, 3, 1, true, []int{3, 1}, []int{1, 1}, true},
		{id: 6}, {id: 0}, {id: -1}, {id: -5}, {id: math.MaxInt}, {id: math.MinInt}, {id: 1 << 32}, {id: 1<<32 + 5},
	} {
		stands(t, "small", small(), want)
	}
	for _, want := range []standing{
		{id: 1, there: true},
		{2, 1, 0, true, []int{1}, []int{0}, true},
		{3, 1, 1, true, []int{1}, []int{1}, true},
		{4, 2, 0, true, []int{2, 2, 1}, []int{0, 0, 0}, true},
		{5, 2, 1, true, []int{2, 2, 1}, []int{0, 0, 1}, true},
		{6, 2, 1, true, []int{2, 1}, []int{0, 1}, true},
		{7, 3, 0, true, []int{3, 1}, []int{1, 0}, true},
		{8, 3, 0, true, []int{3, 1}, []int{2, 0}, true},
		{9, 1, 0, true, []int{1, 3, 1}, []int{2, 1, 0}, true},
		{10, 4, 0, true, []int{4, 1}, []int{3, 0}, true},
		{id: 11},
	} {
		stands(t, "twice", twice(), want)
	}
	lone := node(7)
	stands(t, "one node", lone, standing{id: 7, there: true})
	stands(t, "one node", lone, standing{id: 0})
	stands(t, "the zero node", api.Node{}, standing{id: 0, there: true})
	stands(t, "the zero node", api.Node{}, standing{id: 1})
	stands(t, "kids of nothing", api.Node{Id: 7, Kids: []api.Node{}}, standing{id: 7, there: true})
	stands(t, "kids of nothing", api.Node{Id: 7, Kids: []api.Node{}}, standing{id: 0})
}

// P8.1, P8.2: any numbers are ids.
func TestNumbers(t *testing.T) {
	x := node(math.MinInt, node(0, node(-1)), node(math.MaxInt, node(api.MaxNumber)))
	for _, want := range []standing{
		{id: math.MinInt, there: true},
		{0, math.MinInt, 0, true, []int{math.MinInt}, []int{0}, true},
		{-1, 0, 0, true, []int{0, math.MinInt}, []int{0, 0}, true},
		{math.MaxInt, math.MinInt, 1, true, []int{math.MinInt}, []int{1}, true},
		{api.MaxNumber, math.MaxInt, 0, true, []int{math.MaxInt, math.MinInt}, []int{1, 0}, true},
		{id: 1}, {id: -2}, {id: math.MaxInt - 1}, {id: math.MinInt + 1},
	} {
		stands(t, "numbers", x, want)
	}
	pairs(t, "numbers", x, []pair{
		{0, -1, true, 0, true},
		{-1, 0, false, 0, true},
		{math.MaxInt, api.MaxNumber, true, math.MaxInt, true},
		{-1, api.MaxNumber, false, math.MinInt, true},
		{0, 0, true, 0, true},
		{math.MinInt, math.MaxInt, true, math.MinInt, true},
		{1, 0, false, 0, false},
		{0, 1, false, 0, false},
	})
	for id, want := range map[int]string{
		math.MinInt: "5:0",
		0:           "-9223372036854775808:0(5:0,9223372036854775807:0(1125899906842624:0))",
		-1:          "-9223372036854775808:0(0:0(5:0),9223372036854775807:0(1125899906842624:0))",
		math.MaxInt: "-9223372036854775808:0(0:0(-1:0),5:0)",
	} {
		y, e := place.Put(x, id, node(5))
		if e != api.OK {
			t.Error(id, e)
		}
		shown(t, "Put", y, want)
	}
}

// P8.1: a node's kids have their places from 0 on, and all the same parent.
func TestPlaces(t *testing.T) {
	x := node(1, node(2))
	for k := range 300 {
		x.Kids[0].Kids = append(x.Kids[0].Kids, node(100+k, node(1000+k)))
	}
	for k := range 300 {
		stands(t, "many kids", x, standing{100 + k, 2, k, true, []int{2, 1}, []int{0, k}, true})
		stands(t, "many kids", x, standing{1000 + k, 100 + k, 0, true, []int{100 + k, 2, 1}, []int{0, k, 0}, true})
	}
}

// P8.1: Above is left at any id, and gone over again, also while it is gone over; it tells nothing more once it was left.
func TestAboveLeft(t *testing.T) {
	x := node(1, node(2, node(3, node(4, node(5, node(6))))))
	want := []int{5, 4, 3, 2, 1}
	ids := place.Above(x, 6)
	for last := range want {
		var l []int
		ids(func(id int) bool {
			l = append(l, id)
			return len(l) <= last
		})
		if !slices.Equal(l, want[:last+1]) {
			t.Errorf("left at %d: %v", last, l)
		}
		if l := slices.Collect(ids); !slices.Equal(l, want) {
			t.Errorf("again: %v", l)
		}
	}
	var l []int
	for id := range ids {
		l = append(l, id)
		if inner := slices.Collect(ids); !slices.Equal(inner, want) {
			t.Errorf("within another going: %v", inner)
		}
	}
	if !slices.Equal(l, want) {
		t.Error(l)
	}
	for range 2 {
		for id := range place.Above(x, 1) {
			t.Error("above the root:", id)
		}
		for id := range place.Above(x, 7) {
			t.Error("above one that is not there:", id)
		}
	}
}

// P8.1, R4: Above tells what there was when it was asked for.
func TestAboveTellsThen(t *testing.T) {
	x := small()
	ids := place.Above(x, 5)
	x.Kids[1].Id, x.Kids[1].Kids = 9, nil
	x.Id, x.Kids = 8, nil
	for range 2 {
		if l := slices.Collect(ids); !slices.Equal(l, []int{3, 1}) {
			t.Error(l)
		}
	}
}

// pair is what is to be told of two ids.
type pair struct {
	a, b   int
	within bool
	common int
	ok     bool
}

// pairs checks what Within tells of a and b, and what Common does, in both orders.
func pairs(t *testing.T, what string, x api.Node, l []pair) {
	t.Helper()
	for _, p := range l {
		if within := place.Within(x, p.a, p.b); within != p.within {
			t.Errorf("%s: Within of %d, %d: %v", what, p.a, p.b, within)
		}
		if c, ok := place.Common(x, p.a, p.b); c != p.common || ok != p.ok {
			t.Errorf("%s: Common of %d, %d: %d, %v; want %d, %v", what, p.a, p.b, c, ok, p.common, p.ok)
		}
		if c, ok := place.Common(x, p.b, p.a); c != p.common || ok != p.ok {
			t.Errorf("%s: Common of %d, %d: %d, %v; want %d, %v", what, p.b, p.a, c, ok, p.common, p.ok)
		}
	}
}

// P8.1, P8.2: Within and Common by hand.
func TestPairs(t *testing.T) {
	x := node(1, node(2, node(6, node(7)), node(8)), node(3, node(4), node(5)))
	pairs(t, "a tree", x, []pair{
		{1, 1, true, 1, true}, {2, 2, true, 2, true}, {7, 7, true, 7, true}, {5, 5, true, 5, true}, // the same
		{1, 2, true, 1, true}, {2, 1, false, 1, true}, {1, 7, true, 1, true}, {7, 1, false, 1, true}, // one above the other
		{2, 7, true, 2, true}, {7, 2, false, 2, true}, {6, 7, true, 6, true}, {3, 5, true, 3, true}, {5, 3, false, 3, true},
		{2, 3, false, 1, true}, {3, 2, false, 1, true}, {7, 5, false, 1, true}, {4, 5, false, 3, true}, // in two branches
		{7, 8, false, 2, true}, {8, 6, false, 2, true}, {8, 4, false, 1, true},
		{1, 9, false, 0, false}, {9, 1, false, 0, false}, {7, 0, false, 0, false}, {-7, 7, false, 0, false}, // one is not there
		{9, 9, false, 0, false}, {9, 10, false, 0, false}, {0, -1, false, 0, false}, // none of both is there
		{math.MaxInt, 7, false, 0, false}, {math.MinInt, math.MinInt, false, 0, false},
	})
	pairs(t, "one node", node(7), []pair{{7, 7, true, 7, true}, {7, 8, false, 0, false}, {8, 8, false, 0, false}, {0, 0, false, 0, false}})
	pairs(t, "the zero node", api.Node{}, []pair{{0, 0, true, 0, true}, {0, 1, false, 0, false}, {1, 1, false, 0, false}})
}

// P8.1, P8.2: of several nodes of one id the first one counts, whichever of both has it.
func TestPairsTwice(t *testing.T) {
	pairs(t, "twice", twice(), []pair{
		{1, 9, true, 1, true}, {1, 1, true, 1, true}, {1, 3, true, 1, true}, // the root, not the lower one
		{3, 1, false, 1, true}, {1, 8, true, 1, true}, {9, 10, false, 1, true},
		{2, 2, true, 2, true}, {2, 6, true, 2, true}, {6, 4, false, 2, true}, {4, 5, false, 2, true}, {2, 5, true, 2, true}, // the upper one
		{3, 7, true, 3, true}, {3, 8, false, 1, true}, {3, 9, false, 1, true}, {7, 8, false, 1, true}, // the first one of two side by side
		{2, 4, true, 2, true}, {4, 10, false, 1, true}, {4, 6, false, 2, true}, {4, 3, false, 1, true}, // the deeper one, as it is ahead
		{4, 4, true, 4, true}, {3, 3, true, 3, true},
	})
	pairs(t, "the later one alone is below", node(1, node(6), node(5, node(6))), []pair{{5, 6, false, 1, true}, {6, 5, false, 1, true}})
	pairs(t, "it is below the later one alone", node(1, node(5), node(7, node(5, node(6)))), []pair{{5, 6, false, 1, true}, {7, 6, true, 7, true}})
	pairs(t, "all of one id", node(4, node(4, node(4)), node(4)), []pair{{4, 4, true, 4, true}})
}

// P8.2: At by hand.
func TestAt(t *testing.T) {
	x := node(1, node(2, node(6, node(7)), node(8)), node(3, node(4), node(5)))
	for _, c := range []struct {
		path []int
		want string
	}{
		{nil, "1:0(2:0(6:0(7:0),8:0),3:0(4:0,5:0))"},
		{[]int{}, "1:0(2:0(6:0(7:0),8:0),3:0(4:0,5:0))"},
		{[]int{0}, "2:0(6:0(7:0),8:0)"},
		{[]int{1}, "3:0(4:0,5:0)"},
		{[]int{0, 0}, "6:0(7:0)"},
		{[]int{0, 1}, "8:0"},
		{[]int{1, 0}, "4:0"},
		{[]int{1, 1}, "5:0"},
		{[]int{0, 0, 0}, "7:0"},
	} {
		y, ok := place.At(x, c.path)
		if !ok {
			t.Error(c.path, ok)
		}
		shown(t, "At", y, c.want)
	}
	for _, path := range [][]int{
		{2}, {3}, {-1}, {math.MaxInt}, {math.MinInt}, {1 << 32}, {1<<32 + 1}, {-1 << 32}, // the root has no such kid
		{0, 2}, {0, -1}, {1, 2}, {1, math.MinInt}, {1, math.MaxInt}, {0, 0, 1}, {0, 0, -1},
		{2, 0}, {-1, 0}, {2, 2}, {-1, -1}, {0, 2, 0}, {0, -1, 0}, // and goes on
		{0, 1, 0}, {1, 0, 0}, {1, 1, 1}, {0, 0, 0, 0}, {0, 0, 0, -1}, // one step too long
		{0, 0, 0, 0, 0}, {0, 0, 0, 0, 0, 0, 0, 0}, make([]int, 100_000),
	} {
		y, ok := place.At(x, path)
		if ok {
			t.Error("there is none at", path)
		}
		zero(t, "At", y)
	}
	if y, ok := place.At(node(7), nil); !ok || y.Id != 7 {
		t.Error(y, ok)
	}
	if y, ok := place.At(api.Node{Text: "t"}, nil); !ok || y.Text != "t" {
		t.Error(y, ok)
	}
	for _, path := range [][]int{{0}, {-1}, {1}, {0, 0}} {
		y, ok := place.At(node(7), path)
		if ok {
			t.Error("there is none at", path)
		}
		zero(t, "At", y)
	}
	if y, ok := place.At(twice(), []int{2, 1}); !ok || tree.Show(y) != "1:0(9:0)" {
		t.Error("At goes by places, not by ids:", y, ok)
	}
}

// P8.2: Put by hand.
func TestPut(t *testing.T) {
	for _, c := range []struct {
		what string
		id   int
		x    api.Node
		want string
	}{
		{"the root", 1, node(7), "7:0"},
		{"the root, the same id", 1, node(1), "1:0"},
		{"the root, by the whole tree", 1, node(9, small()), "9:0(1:0(2:0,3:0(4:0,5:0)))"},
		{"a leaf, the first kid", 2, node(7, node(8)), "1:0(7:0(8:0),3:0(4:0,5:0))"},
		{"the last kid, all below it", 3, node(7), "1:0(2:0,7:0)"},
		{"a first kid below", 4, node(7), "1:0(2:0,3:0(7:0,5:0))"},
		{"a last kid below", 5, node(7, node(8), node(9)), "1:0(2:0,3:0(4:0,7:0(8:0,9:0)))"},
		{"the id itself again", 3, node(3), "1:0(2:0,3:0)"},
		{"the id itself below", 3, node(7, node(3, node(8))), "1:0(2:0,7:0(3:0(8:0)))"},
		{"the id twice", 2, node(2, node(2)), "1:0(2:0(2:0),3:0(4:0,5:0))"},
		{"ids that are there", 2, small(), "1:0(1:0(2:0,3:0(4:0,5:0)),3:0(4:0,5:0))"},
		{"the zero node", 4, api.Node{}, "1:0(2:0,3:0(0:0,5:0))"},
		{"kind and text", 4, api.Node{Id: -4, Kind: 6, Text: "t"}, `1:0(2:0,3:0(-4:6"t",5:0))`},
	} {
		y, e := place.Put(small(), c.id, c.x)
		if e != api.OK {
			t.Error(c.what, e)
		}
		shown(t, c.what, y, c.want)
	}
	for _, id := range []int{0, 6, -1, 7, math.MaxInt, math.MinInt, 1<<32 + 1} { // 7 is in x alone
		y, e := place.Put(small(), id, node(7))
		if e != api.ErrNone {
			t.Error(id, e)
		}
		zero(t, "Put", y)
	}
	if y, e := place.Put(node(7), 7, node(8, node(9))); e != api.OK || tree.Show(y) != "8:0(9:0)" {
		t.Error(y, e)
	}
	if y, e := place.Put(api.Node{}, 0, node(8)); e != api.OK || tree.Show(y) != "8:0" {
		t.Error(y, e)
	}
}

// P8.2: of several nodes of one id the first one goes, the others stay.
func TestPutTwice(t *testing.T) {
	for id, want := range map[int]string{
		1: "0:0",
		2: "1:0(0:0,3:0(7:0),3:0(8:0,1:0(9:0)),4:0(10:0))",
		3: "1:0(2:0(2:0(4:0,5:0),6:0),0:0,3:0(8:0,1:0(9:0)),4:0(10:0))",
		4: "1:0(2:0(2:0(0:0,5:0),6:0),3:0(7:0),3:0(8:0,1:0(9:0)),4:0(10:0))",
	} {
		y, e := place.Put(twice(), id, api.Node{})
		if e != api.OK {
			t.Error(id, e)
		}
		shown(t, "Put", y, want)
	}
}

// P8.3: Put of a node in its own place changes nothing, of one that is there more than once neither.
func TestPutOwn(t *testing.T) {
	for _, x := range []api.Node{small(), twice(), rich(), node(7), {}} {
		for _, id := range tree.Ids(x) {
			path, ok := place.Path(x, id)
			own, there := place.At(x, path)
			y, e := place.Put(x, id, own)
			if !ok || !there || e != api.OK || !tree.Same(x, y) {
				t.Errorf("%d: %v, %v, %v, %s; want %s", id, ok, there, e, tree.Show(y), tree.Show(x))
			}
		}
	}
}

// R3: the same call tells the same, whatever was called between.
func TestAgain(t *testing.T) {
	x := rich()
	type answer struct {
		parent, place, common int
		ok, there, within     bool
		above, path           []int
		at, put               api.Node
		e                     api.Errno
	}
	all := func() []answer {
		var l []answer
		for _, id := range append(tree.Ids(x), 77, 0) {
			var a answer
			a.parent, a.place, a.ok = place.Parent(x, id)
			a.above, a.within = above(x, id), place.Within(x, 5, id)
			a.path, a.there = place.Path(x, id)
			a.at, _ = place.At(x, a.path)
			a.put, a.e = place.Put(x, id, small())
			a.common, _ = place.Common(x, id, 6)
			l = append(l, a)
		}
		return l
	}
	if first := all(); !reflect.DeepEqual(first, all()) {
		t.Error("other answers")
	}
}
