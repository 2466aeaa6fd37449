package place_test

import (
	"math/rand"
	"slices"
	"testing"

	"allotment/api"
	"allotment/place"
	"allotment/tree"
)

// found is a node, its path, and the nodes from the root to it.
type found struct {
	path []int
	line []api.Node
}

func (f found) node() api.Node {
	return f.line[len(f.line)-1]
}

// plainly gives all nodes of x in the walk, by the chapter's words.
func plainly(x api.Node, path []int, line []api.Node) []found {
	line = append(slices.Clone(line), x)
	l := []found{{path, line}}
	for k, kid := range x.Kids {
		l = append(l, plainly(kid, append(slices.Clone(path), k), line)...)
	}
	return l
}

// firsts gives the first node of each id.
func firsts(x api.Node) map[int]found {
	m := map[int]found{}
	for _, f := range slices.Backward(plainly(x, nil, nil)) {
		m[f.node().Id] = f
	}
	return m
}

// begins tells whether a is the beginning of b.
func begins(a, b []int) bool {
	return len(a) <= len(b) && slices.Equal(a, b[:len(a)])
}

// anyTree gives some tree of at most so many nodes, with ids from below, or each one once.
func anyTree(r *rand.Rand, nodes *int, id func() int) api.Node {
	*nodes--
	x := api.Node{Id: id(), Kind: r.Intn(5) - 1, Text: []string{"", "", "a", "),("}[r.Intn(4)]}
	for *nodes > 0 && r.Intn(8) < 5 {
		x.Kids = append(x.Kids, anyTree(r, nodes, id))
	}
	return x
}

// some gives trees: some with ids that are there more than once, some with each one once.
func some() (many, once []api.Node) {
	r := rand.New(rand.NewSource(8))
	for range 400 {
		size, most, next := 1+r.Intn(20), 2+r.Intn(20), 0
		nodes := size
		many = append(many, anyTree(r, &nodes, func() int { return r.Intn(most) - 1 }))
		nodes = size
		ids := r.Perm(100)
		once = append(once, anyTree(r, &nodes, func() int { next++; return ids[next] - 20 }))
	}
	return many, once
}

// asked are the ids of x, and some that may not be there.
func asked(x api.Node) []int {
	l := append(tree.Ids(x), -2, -1, 0, 1, 50, 1000)
	slices.Sort(l)
	return slices.Compact(l)
}

// P8.1, P8.2: of any trees, what the chapter's words tell of one id.
func TestAny(t *testing.T) {
	many, once := some()
	for _, x := range append(many, once...) {
		first := firsts(x)
		for _, id := range asked(x) {
			f, there := first[id]
			want := standing{id: id, there: there, path: f.path}
			for _, n := range slices.Backward(f.line[:max(0, len(f.line)-1)]) {
				want.above = append(want.above, n.Id)
			}
			if want.ok = len(f.path) > 0; want.ok {
				want.parent, want.place = want.above[0], f.path[len(f.path)-1]
			}
			stands(t, tree.Show(x), x, want)
			isPut(t, x, id, f, there)
		}
	}
}

// isPut checks Put by putting into a copy, along the path.
func isPut(t *testing.T, x api.Node, id int, f found, there bool) {
	t.Helper()
	sub := node(200, node(id), node(201))
	y, e := place.Put(x, id, sub)
	if !there {
		if e != api.ErrNone {
			t.Errorf("Put of %d, that is not there: %v", id, e)
		}
		zero(t, "Put", y)
		return
	}
	want := tree.Copy(x)
	at := &want
	for _, k := range f.path {
		at = &at.Kids[k]
	}
	*at = sub
	if e != api.OK {
		t.Errorf("Put of %d: %v", id, e)
	}
	same(t, "Put", y, want)
}

// P8.2: of any trees, At tells just what is there.
func TestAtAny(t *testing.T) {
	r := rand.New(rand.NewSource(9))
	many, _ := some()
	for _, x := range many {
		var paths [][]int
		for _, f := range plainly(x, nil, nil) {
			paths = append(paths, f.path)
			y, ok := place.At(x, f.path)
			if !ok {
				t.Errorf("%s: there is one at %v", tree.Show(x), f.path)
			}
			same(t, "At", y, f.node())
		}
		for range 50 {
			path := slices.Clone(paths[r.Intn(len(paths))])
			for range r.Intn(3) {
				path = slices.Insert(path, r.Intn(len(path)+1), r.Intn(5)-1)
			}
			there := slices.ContainsFunc(paths, func(p []int) bool { return slices.Equal(p, path) })
			y, ok := place.At(x, path)
			if ok != there {
				t.Errorf("%s: At of %v: %v", tree.Show(x), path, ok)
			}
			if !ok {
				zero(t, "At", y)
			}
		}
	}
}

// P8.1, P8.2: of any trees, what the chapter's words tell of two ids. (Where the lowest node that has both has the id of one ahead, they don't tell how Common is to name it.)
func TestPairsAny(t *testing.T) {
	many, once := some()
	for _, x := range append(many, once...) {
		first := firsts(x)
		for _, a := range asked(x) {
			for _, b := range asked(x) {
				f, g := first[a], first[b]
				both := len(f.line) > 0 && len(g.line) > 0
				if place.Within(x, a, b) != (both && begins(f.path, g.path)) {
					t.Errorf("%s: Within of %d, %d", tree.Show(x), a, b)
				}
				c, ok := place.Common(x, a, b)
				if ok != both || !ok && c != 0 {
					t.Errorf("%s: Common of %d, %d: %d, %v", tree.Show(x), a, b, c, ok)
				}
				if !both {
					continue
				}
				depth := len(f.path)
				for !begins(f.path[:depth], g.path) {
					depth--
				}
				low := f.line[depth].Id
				if slices.Equal(first[low].path, f.path[:depth]) && c != low {
					t.Errorf("%s: Common of %d, %d: %d; want %d", tree.Show(x), a, b, c, low)
				}
			}
		}
	}
}

// P8.3: At of Path is the node of that id, of any trees.
func TestAtOfPath(t *testing.T) {
	many, once := some()
	for _, x := range append(many, once...) {
		for _, id := range tree.Ids(x) {
			path, ok := place.Path(x, id)
			y, there := place.At(x, path)
			want, _ := tree.Find(x, id)
			if !ok || !there || y.Id != id {
				t.Errorf("%s: %d: %v, %v, %d", tree.Show(x), id, ok, there, y.Id)
			}
			same(t, "At of Path", y, want)
			own, e := place.Put(x, id, y)
			if e != api.OK {
				t.Errorf("%s: Put of %d: %v", tree.Show(x), id, e)
			}
			same(t, "Put of a node in its own place", own, x)
		}
	}
}

// P8.3, P8.4: of ids that are there once: b is within a just if a is b, or among those above b; what is common is within all that both are within, and both are within it.
func TestFollows(t *testing.T) {
	_, once := some()
	for _, x := range once {
		ids := tree.Ids(x)
		for _, b := range ids {
			over := append(above(x, b), b)
			for _, a := range append(ids, 1000, -1000) {
				if place.Within(x, a, b) != slices.Contains(over, a) {
					t.Errorf("%s: Within of %d, %d; %v are above", tree.Show(x), a, b, over)
				}
			}
			for _, a := range ids {
				c, ok := place.Common(x, a, b)
				if !ok || !place.Within(x, c, a) || !place.Within(x, c, b) {
					t.Errorf("%s: Common of %d, %d: %d, %v", tree.Show(x), a, b, c, ok)
				}
				for _, both := range ids {
					if place.Within(x, both, a) && place.Within(x, both, b) && !place.Within(x, both, c) {
						t.Errorf("%s: %d and %d are within %d, their Common %d is not", tree.Show(x), a, b, both, c)
					}
				}
			}
		}
	}
}
