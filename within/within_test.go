package within_test

import (
	"math"
	"slices"
	"testing"

	"allotment/api"
	"allotment/tree"
	"allotment/within"
)

// node gives a node of the kind 0 in memory of its own.
func node(id int, kids ...api.Node) api.Node {
	return of(0, id, kids...)
}

// of gives a node of that kind.
func of(kind, id int, kids ...api.Node) api.Node {
	return api.Node{Id: id, Kind: kind, Kids: slices.Clone(kids)}
}

func insert(parent, place int, sub api.Node) api.Step {
	return api.Step{Op: api.StInsert, Parent: parent, Place: place, Sub: sub}
}

func remove(id int) api.Step {
	return api.Step{Op: api.StDelete, Id: id}
}

func move(id, parent, place int) api.Step {
	return api.Step{Op: api.StMove, Id: id, Parent: parent, Place: place}
}

func write(id int, text string) api.Step {
	return api.Step{Op: api.StText, Id: id, Text: text}
}

// row gives steps in memory of their own.
func row(l ...api.Step) []api.Step {
	return slices.Clone(l)
}

// small is the chapter's tree.
func small() api.Node {
	return node(1, node(2, node(3)), node(4))
}

// wide is a tree in which the subtree of 3 has some ahead of it, some behind it, some above it, and some below it: 1(2(5), 3(6(9), 7(10, 11), 8), 4(12)) below 20, which has 21 ahead and 22 behind.
func wide() api.Node {
	three := node(3, node(6, node(9)), node(7, node(10), node(11)), node(8))
	return node(20, node(21, node(23)), node(1, node(2, node(5)), three, node(4, node(12))), node(22))
}

// The ids of wide in the subtree of 3 but for 3 itself, and all others, some that aren't there at the end.
var (
	inWide  = []int{6, 7, 8, 9, 10, 11}
	outWide = []int{20, 21, 23, 1, 2, 5, 4, 12, 22, 99, 0, -3, 1<<32 + 3, 1<<32 + 6, math.MaxInt, math.MinInt}
)

// twice is a tree in which ids stand more than once: in the subtree of 2 stand 4, which is ahead of it, 3, which is there first, 5, which is above it, 2 itself, and 6, twice.
func twice() api.Node {
	two := node(2, node(3), node(4, node(9)), node(5), node(2, node(10)), node(6), node(6, node(11)))
	return node(1, node(4, node(12)), node(5, two, node(3, node(13))), node(2, node(14)))
}

// is checks what Step tells.
func is(t *testing.T, what string, x api.Node, root int, s api.Step, want bool) {
	t.Helper()
	if in := within.Step(x, root, s); in != want {
		t.Errorf("%s: %s, root %d: %t; want %t", what, tree.Show(x), root, in, want)
	}
}

// The chapter's examples.
func TestExamples(t *testing.T) {
	for what, s := range map[string]api.Step{"Text 2": write(2, "a"), "Insert below 3": insert(3, 0, node(5)), "Delete 3": remove(3)} {
		is(t, what, small(), 2, s, true)
		goes(t, what, lists(), small(), 2, row(s))
	}
	for what, s := range map[string]api.Step{"Delete 2": remove(2), "Move 3 to 4": move(3, 4, 0), "Text 1": write(1, "a")} {
		is(t, what, small(), 2, s, false)
		stops(t, what, lists(), small(), 2, row(s), 0, api.ErrOutside)
	}
}

// P13.1: each Op, by each node that it touches.
func TestStep(t *testing.T) {
	x := wide()
	for _, in := range append([]int{3}, inWide...) {
		is(t, "insert", x, 3, insert(in, 0, node(30)), true)
		is(t, "text", x, 3, write(in, "a"), true)
		is(t, "delete", x, 3, remove(in), in != 3)
		for _, other := range append([]int{3}, inWide...) {
			is(t, "move", x, 3, move(in, other, 0), in != 3)
		}
		for _, out := range outWide {
			is(t, "move, Parent outside", x, 3, move(in, out, 0), false)
			is(t, "move, Id outside", x, 3, move(out, in, 0), false)
		}
	}
	for _, out := range outWide {
		is(t, "insert, outside", x, 3, insert(out, 0, node(30)), false)
		is(t, "text, outside", x, 3, write(out, "a"), false)
		is(t, "delete, outside", x, 3, remove(out), false)
		for _, other := range outWide {
			is(t, "move, both outside", x, 3, move(out, other, 0), false)
		}
	}
}

// P13.1: the root itself is neither deleted nor moved, all else may be done to it.
func TestRoot(t *testing.T) {
	for root, deep := range map[int]int{2: 3, 3: 3, 4: 4, 1: 3} {
		x := small()
		is(t, "deleted", x, root, remove(root), false)
		is(t, "moved below one in it", x, root, move(root, deep, 0), false)
		is(t, "moved below itself", x, root, move(root, root, 0), false)
		is(t, "moved to where it may stand", x, root, move(root, 1, 0), false)
		is(t, "moved to another one", x, root, move(root, 4, 0), false)
		is(t, "moved to none", x, root, move(root, 9, 0), false)
		is(t, "written", x, root, write(root, "a"), true)
		is(t, "inserted below", x, root, insert(root, 0, node(9)), true)
		is(t, "one in it moved below it", x, root, move(deep, root, 0), deep != root)
		is(t, "its id is in Sub", x, root, insert(root, 0, node(root)), true)
	}
}

// P13.1: fields that the Op does not go by count for nothing.
func TestStepFields(t *testing.T) {
	for _, id := range []int{1, 2, 3, 4, 9} {
		for _, sub := range []api.Node{{}, node(1), node(2), node(3), node(4, node(2))} {
			is(t, "insert", small(), 2, api.Step{Op: api.StInsert, Id: id, Parent: 2, Text: "x", Sub: sub}, true)
			is(t, "insert below 3", small(), 2, api.Step{Op: api.StInsert, Id: id, Parent: 3, Text: "x", Sub: sub}, true)
			is(t, "insert below 4", small(), 2, api.Step{Op: api.StInsert, Id: id, Parent: 4, Sub: sub}, false)
			is(t, "text", small(), 2, api.Step{Op: api.StText, Id: 3, Parent: id, Place: -1, Sub: sub}, true)
			is(t, "text of the root", small(), 2, api.Step{Op: api.StText, Id: 2, Parent: id, Place: -1, Sub: sub}, true)
			is(t, "text of 4", small(), 2, api.Step{Op: api.StText, Id: 4, Parent: id, Sub: sub}, false)
			is(t, "delete", small(), 2, api.Step{Op: api.StDelete, Id: 3, Parent: id, Place: -1, Text: "x", Sub: sub}, true)
			is(t, "delete the root", small(), 2, api.Step{Op: api.StDelete, Id: 2, Parent: id, Sub: sub}, false)
			is(t, "delete 4", small(), 2, api.Step{Op: api.StDelete, Id: 4, Parent: id, Sub: sub}, false)
			is(t, "move", small(), 2, api.Step{Op: api.StMove, Id: 3, Parent: 2, Place: 77, Text: "x", Sub: sub}, true)
		}
	}
}

// P13.1: whether a step goes is not asked.
func TestStepGoesNot(t *testing.T) {
	for what, s := range map[string]api.Step{
		"a place that is none":       insert(3, 7, node(9)),
		"a place below 0":            move(3, 2, -1),
		"an id that may not be":      insert(3, 0, node(0)),
		"an id that is there":        insert(3, 0, node(4)),
		"the zero Sub":               insert(2, 0, api.Node{}),
		"into itself":                move(3, 3, 0),
		"a text that is too long":    write(3, string(make([]byte, 10*api.MaxWord))),
		"a Sub that is too great":    insert(3, 0, fan(100, most+1)),
		"a delete with such a Sub":   {Op: api.StDelete, Id: 3, Sub: fan(100, most+1)},
		"a Sub that is without end":  insert(3, 0, loop()),
		"a text with such a Sub":     {Op: api.StText, Id: 3, Sub: loop()},
		"below one that is below it": move(5, 6, 0),
	} {
		is(t, what, node(1, node(2, node(3), node(5, node(6))), node(4)), 2, s, true)
	}
}

// P13.1: a root that is not in the tree.
func TestNoRoot(t *testing.T) {
	for _, root := range []int{9, 0, -1, 1<<32 + 2, math.MaxInt, math.MinInt} {
		for _, id := range []int{root, 1, 2, 3} {
			for what, s := range map[string]api.Step{
				"insert":         insert(id, 0, node(root)),
				"text":           write(id, "a"),
				"delete":         remove(id),
				"move":           move(id, 2, 0),
				"move below":     move(3, id, 0),
				"move to itself": move(id, id, 0),
				"none":           {Id: id, Parent: id},
			} {
				is(t, what, small(), root, s, false)
				is(t, what+", the zero node", api.Node{Id: root + 1}, root, s, false)
			}
		}
	}
}

// P13.1: of the tree's own root all that is in the tree is inside.
func TestWholeTree(t *testing.T) {
	x := wide()
	for _, id := range tree.Ids(x) {
		is(t, "text", x, 20, write(id, "a"), true)
		is(t, "insert", x, 20, insert(id, 0, node(30)), true)
		is(t, "delete", x, 20, remove(id), id != 20)
		for _, other := range tree.Ids(x) {
			is(t, "move", x, 20, move(id, other, 0), id != 20)
		}
		is(t, "move to none", x, 20, move(id, 99, 0), false)
	}
	for _, id := range []int{99, 0, -1} {
		is(t, "text of none", x, 20, write(id, "a"), false)
		is(t, "insert below none", x, 20, insert(id, 0, node(30)), false)
		is(t, "delete of none", x, 20, remove(id), false)
		is(t, "move of none", x, 20, move(id, 20, 0), false)
	}
}

// P13.1: a subtree of one node.
func TestLeaf(t *testing.T) {
	for root, out := range map[int]int{9: 6, 12: 22, 23: 1, 22: 20} {
		is(t, "text", wide(), root, write(root, "a"), true)
		is(t, "insert", wide(), root, insert(root, 0, node(30)), true)
		is(t, "delete", wide(), root, remove(root), false)
		is(t, "text of the next one", wide(), root, write(out, "a"), false)
		is(t, "move to the next one", wide(), root, move(root, out, 0), false)
		is(t, "move the next one here", wide(), root, move(out, root, 0), false)
	}
	is(t, "a root alone", node(7), 7, write(7, ""), true)
	is(t, "a root alone, deleted", node(7), 7, remove(7), false)
	is(t, "the zero node", api.Node{}, 0, write(0, ""), true)
	is(t, "the zero node, inserted below", api.Node{}, 0, api.Step{Op: api.StInsert}, true)
	is(t, "the zero node, deleted", api.Node{}, 0, remove(0), false)
	is(t, "the zero node, moved", api.Node{}, 0, move(0, 0, 0), false)
	is(t, "ids that may not be", node(0, node(-1, node(-2)), node(math.MinInt)), -1, write(-2, ""), true)
	is(t, "ids that may not be, outside", node(0, node(-1, node(-2)), node(math.MinInt)), -1, write(math.MinInt, ""), false)
}

// P13.1: Ops that are none are never inside, and touch nothing.
func TestNoOp(t *testing.T) {
	for op := math.MinInt8; op <= math.MaxInt8; op++ {
		if op >= int(api.StInsert) && op <= int(api.StText) {
			continue
		}
		for _, id := range []int{1, 2, 3, 4, 9, 0} {
			s := api.Step{Op: int8(op), Id: id, Parent: 3, Sub: node(9)}
			is(t, "no Op", small(), 2, s, false)
			is(t, "no Op, the whole tree", small(), 1, s, false)
			is(t, "no Op, no root", small(), 9, s, false)
			touches(t, "no Op", s)
		}
	}
	is(t, "the zero step, the zero node", api.Node{}, 0, api.Step{}, false)
	touches(t, "the zero step", api.Step{})
}

// P13.1: of several nodes of one id the first one in the walk counts.
func TestTwice(t *testing.T) {
	for id, in := range map[int]bool{1: false, 12: false, 13: false, 14: false, 4: false, 5: false, 2: true, 3: true, 6: true, 9: true, 10: true, 11: true} {
		is(t, "text", twice(), 2, write(id, "a"), in)
		is(t, "insert", twice(), 2, insert(id, 0, node(30)), in)
		is(t, "delete", twice(), 2, remove(id), in && id != 2)
		is(t, "move", twice(), 2, move(id, 2, 0), in && id != 2)
		is(t, "move below", twice(), 2, move(6, id, 0), in)
	}
	is(t, "the root's first node counts", twice(), 4, write(12, ""), true)
	is(t, "the root's later node does not", twice(), 4, write(9, ""), false)
	is(t, "the root's later node, behind", twice(), 2, write(14, ""), false)
	is(t, "the root above one of its id", twice(), 2, write(10, ""), true)
	is(t, "one of the root's id below it is not meant", twice(), 2, remove(2), false)
	is(t, "a root that stands twice below another", twice(), 5, write(10, ""), true)
	is(t, "behind one ahead of it", twice(), 5, write(4, ""), false)
	is(t, "the whole tree", twice(), 1, move(4, 14, 0), true)
	is(t, "the tree's root's id again", node(1, node(2, node(1, node(3)))), 2, write(1, ""), false)
	is(t, "below the tree's root's id again", node(1, node(2, node(1, node(3)))), 2, write(3, ""), true)
	is(t, "of one id all", node(4, node(4, node(4)), node(5)), 4, write(5, ""), true)
	is(t, "of one id all, inserted below", node(4, node(4, node(4)), node(5)), 4, insert(4, 0, node(6)), true)
	is(t, "of one id all, deleted", node(4, node(4, node(4)), node(5)), 4, remove(4), false)
}

// touches checks all ways to go over what a step touches.
func touches(t *testing.T, what string, s api.Step, want ...int) {
	t.Helper()
	each := within.Touches(s)
	for range 2 { // gone over again, too
		if ids := slices.Collect(each); !slices.Equal(ids, want) {
			t.Errorf("%s: %v; want %v", what, ids, want)
		}
	}
	for last := range want { // left early
		var ids []int
		each(func(id int) bool {
			ids = append(ids, id)
			return len(ids) <= last
		})
		if !slices.Equal(ids, want[:last+1]) {
			t.Errorf("%s, left behind %d: %v; want %v", what, last, ids, want[:last+1])
		}
	}
	if ids := slices.Collect(each); !slices.Equal(ids, want) {
		t.Errorf("%s, behind one that was left: %v; want %v", what, ids, want)
	}
}

// P13.1: what each Op touches, in its order, whatever the other fields are.
func TestTouches(t *testing.T) {
	for _, id := range []int{5, 0, -5, math.MaxInt, math.MinInt} {
		for _, parent := range []int{7, 5, 0, math.MinInt, math.MaxInt} {
			s := api.Step{Id: id, Parent: parent, Place: 3, Text: "x", Sub: node(8, node(9))}
			for op, want := range map[int8][]int{api.StInsert: {parent}, api.StDelete: {id}, api.StMove: {id, parent}, api.StText: {id}} {
				s.Op = op
				touches(t, "all fields", s, want...)
				touches(t, "no place, no text, no Sub", api.Step{Op: op, Id: id, Parent: parent}, want...)
			}
		}
	}
	touches(t, "an insert", insert(2, 0, node(3)), 2)
	touches(t, "a delete", remove(2), 2)
	touches(t, "a move", move(3, 2, 0), 3, 2)
	touches(t, "a move, the other way", move(2, 3, 0), 2, 3)
	touches(t, "a move into itself", move(2, 2, 0), 2, 2)
	touches(t, "a text", write(2, ""), 2)
	touches(t, "a Sub that is without end", insert(2, 0, loop()), 2)
}

// P13.1: two goings at one time do not meet.
func TestTouchesWithin(t *testing.T) {
	each := within.Touches(move(3, 2, 0))
	var ids []int
	for id := range each {
		for other := range each {
			ids = append(ids, id, other)
		}
	}
	if want := []int{3, 3, 3, 2, 2, 3, 2, 2}; !slices.Equal(ids, want) {
		t.Error(ids)
	}
}
