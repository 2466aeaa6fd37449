package place_test

import (
	"runtime/debug"
	"slices"
	"testing"

	"allotment/api"
	"allotment/place"
	"allotment/tree"
)

// deep gives a line of nodes of that depth, 1 and so on, with a leaf ahead of each one but the first, of the id below 0.
func deep(depth int) api.Node {
	x := node(depth)
	for id := depth - 1; id > 0; id-- {
		x = node(id, node(-id), x)
	}
	return x
}

// P8.1 to P8.3, R1: trees as deep as they are big, on a stack that doesn't bear as many calls.
func TestDeep(t *testing.T) {
	defer debug.SetMaxStack(debug.SetMaxStack(1 << 18))
	for _, depth := range []int{2, 32, 33, 100, 101, 200, 1000, 30_000} {
		x := deep(depth)
		var path, over []int
		for id := depth - 1; id > 0; id-- {
			path, over = append(path, 1), append(over, id)
		}
		stands(t, "deep", x, standing{depth, depth - 1, 1, true, over, path, true})
		leaf := append(slices.Clone(path[1:]), 0)
		stands(t, "deep", x, standing{1 - depth, depth - 1, 0, true, over, leaf, true})
		stands(t, "deep", x, standing{id: depth + 1})
		pairs(t, "deep", x, []pair{
			{1, depth, true, 1, true}, {depth, 1, false, 1, true}, {depth - 1, depth, true, depth - 1, true},
			{depth, depth, true, depth, true}, {1 - depth, depth, false, depth - 1, true}, {-1, depth, false, 1, true},
			{depth, depth + 1, false, 0, false}, {depth + 1, 1, false, 0, false},
		})
		if y, ok := place.At(x, path); !ok || !tree.Same(y, node(depth)) {
			t.Error("At of a long path:", depth, ok)
		}
		if y, ok := place.At(x, path[:depth/2]); !ok || y.Id != 1+depth/2 || tree.Depth(y) != depth-depth/2 {
			t.Error("At of half of a long path:", depth, ok)
		}
		for _, longer := range [][]int{append(slices.Clone(path), 0), append(slices.Clone(path), path...), append(slices.Clone(leaf), 1)} {
			if y, ok := place.At(x, longer); ok || y.Id != 0 {
				t.Error("At of a path that is too long:", depth, y.Id)
			}
		}
		y, e := place.Put(x, depth, node(0, node(depth+1)))
		if e != api.OK || tree.Count(y) != 2*depth || tree.Depth(y) != depth+1 {
			t.Error("Put into a deep tree:", depth, e)
		}
		stands(t, "Put", y, standing{0, depth - 1, 1, true, over, path, true})
		if _, e := place.Put(x, depth+1, node(0)); e != api.ErrNone {
			t.Error("Put of one that is not there:", depth, e)
		}
		y, e = place.Put(node(0, node(-1)), -1, x)
		if e != api.OK || !tree.Same(y, node(0, x)) {
			t.Error("Put of a deep tree:", depth, e)
		}
		y, e = place.Put(y, 1, node(7))
		if e != api.OK || !tree.Same(y, node(0, node(7))) {
			t.Error("Put in the place of a deep tree:", depth, e)
		}
	}
}

// P8.1, P8.2, R1: a node that has very many kids.
func TestWide(t *testing.T) {
	const count = 300_000
	x := node(0)
	for id := 1; id <= count; id++ {
		x.Kids = append(x.Kids, api.Node{Id: id})
	}
	stands(t, "wide", x, standing{1, 0, 0, true, []int{0}, []int{0}, true})
	stands(t, "wide", x, standing{count, 0, count - 1, true, []int{0}, []int{count - 1}, true})
	stands(t, "wide", x, standing{id: count + 1})
	pairs(t, "wide", x, []pair{{0, count, true, 0, true}, {1, count, false, 0, true}, {1, count + 1, false, 0, false}})
	if y, ok := place.At(x, []int{count - 1}); !ok || y.Id != count {
		t.Error(y.Id, ok)
	}
	if _, ok := place.At(x, []int{count}); ok {
		t.Error("past the last kid")
	}
	y, e := place.Put(x, count, node(-1))
	if e != api.OK || len(y.Kids) != count || y.Kids[count-1].Id != -1 || y.Kids[0].Id != 1 {
		t.Error(e, len(y.Kids))
	}
}
