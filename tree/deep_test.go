package tree_test

import (
	"bytes"
	"math/rand"
	"runtime/debug"
	"slices"
	"strconv"
	"strings"
	"testing"

	"allotment/api"
	"allotment/code"
	"allotment/tree"
)

// deep gives a line of nodes of that depth, 1 and so on, with so many leaves of the id below 0 behind each one but the first.
func deep(depth, leaves int) api.Node {
	x := api.Node{Id: depth}
	for d := depth - 1; d > 0; d-- {
		kids := []api.Node{x}
		for range leaves {
			kids = append(kids, api.Node{Id: -d})
		}
		x = api.Node{Id: d, Kids: kids}
	}
	return x
}

// deepWalk gives the depths and ids of what deep gives, in the walk.
func deepWalk(depth, leaves int) (depths, ids []int) {
	for d := 1; d <= depth; d++ {
		depths, ids = append(depths, d), append(ids, d)
	}
	for d := depth - 1; d > 0; d-- {
		for range leaves {
			depths, ids = append(depths, d+1), append(ids, -d)
		}
	}
	return depths, ids
}

// deepShown gives what deep gives as a text.
func deepShown(depth, leaves int) string {
	var s strings.Builder
	for d := 1; d < depth; d++ {
		s.WriteString(strconv.Itoa(d) + ":0(")
	}
	s.WriteString(strconv.Itoa(depth) + ":0")
	for d := depth - 1; d > 0; d-- {
		s.WriteString(strings.Repeat(","+strconv.Itoa(-d)+":0", leaves) + ")")
	}
	return s.String()
}

// depths are such as may be gone down at once, and all beside them.
func depths() []int {
	return []int{1, 2, 32, 41, 99, 100, 101, 102, 199, 200, 201, 300, 301, 1000}
}

// P6.1, P6.2, R1: trees as deep as they are big, on a stack that doesn't bear as many calls.
func TestDeep(t *testing.T) {
	defer debug.SetMaxStack(debug.SetMaxStack(1 << 18))
	for _, depth := range append(depths(), 30_000) {
		for leaves := range 3 {
			x := deep(depth, leaves)
			wantDepths, wantIds := deepWalk(depth, leaves)
			if n := tree.Count(x); n != len(wantIds) {
				t.Errorf("%d, %d: Count %d", depth, leaves, n)
			}
			if n := tree.Depth(x); n != depth {
				t.Errorf("%d, %d: Depth %d", depth, leaves, n)
			}
			if !slices.Equal(tree.Ids(x), wantIds) {
				t.Errorf("%d, %d: other Ids", depth, leaves)
			}
			if tree.Show(x) != deepShown(depth, leaves) {
				t.Errorf("%d, %d: another text", depth, leaves)
			}
			if !bytes.Equal(tree.Bytes(x), code.Node(nil, x)) {
				t.Errorf("%d, %d: other bytes", depth, leaves)
			}
			c := tree.Copy(x)
			if !tree.Same(c, x) || !slices.Equal(tree.Ids(c), wantIds) {
				t.Errorf("%d, %d: another copy", depth, leaves)
			}
			if tree.Same(deep(depth+1, leaves), x) || tree.Same(x, deep(depth, leaves+1)) && depth > 1 {
				t.Errorf("%d, %d: the same", depth, leaves)
			}
			y, ok := tree.Find(x, depth)
			if !ok || !tree.Same(y, api.Node{Id: depth}) {
				t.Errorf("%d, %d: Find: %v", depth, leaves, ok)
			}
			if _, ok := tree.Find(x, depth+1); ok {
				t.Errorf("%d, %d: found what is not there", depth, leaves)
			}
			isWalked(t, x, wantDepths, wantIds)
		}
	}
}

// isWalked checks what a walk tells, gone over twice.
func isWalked(t *testing.T, x api.Node, depths, ids []int) {
	t.Helper()
	walk := tree.Walk(x)
	for range 2 {
		i := 0
		for depth, n := range walk {
			if i >= len(ids) || depth != depths[i] || n.Id != ids[i] {
				t.Fatalf("node %d: depth %d, id %d", i, depth, n.Id)
			}
			i++
		}
		if i != len(ids) {
			t.Fatalf("%d nodes; want %d", i, len(ids))
		}
	}
}

// P6.1: a walk of a deep tree is left at any node.
func TestDeepLeft(t *testing.T) {
	for _, depth := range []int{100, 101, 250} {
		x := deep(depth, 2)
		_, ids := deepWalk(depth, 2)
		walk := tree.Walk(x)
		for last := 0; last < len(ids); last += 13 {
			i := 0
			walk(func(_ int, n api.Node) bool {
				if i > last || n.Id != ids[i] {
					t.Fatalf("node %d, left at %d: id %d", i, last, n.Id)
				}
				i++
				return i <= last
			})
			if i != last+1 {
				t.Errorf("%d nodes; want %d", i, last+1)
			}
		}
	}
}

// P6.1, R4: a walk of a tree so deep that its nodes, with all below them, are too many to be told apart still shares nothing with what was handed in, nor with another going.
func TestDeepMemory(t *testing.T) {
	const depth = 20_000
	x := deep(depth, 0)
	walk := tree.Walk(x)
	for range 2 {
		count := 0
		var last api.Node
		for _, n := range walk {
			last = n
			if count++; count == depth/2 {
				n.Kids[0].Text = "spoilt"
				break
			}
		}
		if last.Id != depth/2 || last.Kids[0].Id != depth/2+1 {
			t.Error(last.Id)
		}
	}
	for _, n := range walk {
		if n.Text != "" {
			t.Fatal("another going was spoilt")
		}
	}
	if !tree.Same(x, deep(depth, 0)) {
		t.Error("what was handed in is changed")
	}
	spoil(api.Node{Kids: x.Kids[:1:1]})
	count := 0
	for range walk {
		count++
	}
	if count != depth {
		t.Error("it tells what there is now:", count)
	}
}

// tangled gives some tree with lines of any depth, and nodes beside them.
func tangled(r *rand.Rand, depth int) api.Node {
	x := api.Node{Id: r.Intn(1000)}
	if depth == 0 {
		return x
	}
	line := r.Intn(3)
	for k := range line + r.Intn(2) {
		if k == line/2 {
			x.Kids = append(x.Kids, tangled(r, depth-1))
		} else {
			x.Kids = append(x.Kids, tangled(r, min(depth-1, r.Intn(1+r.Intn(4)))))
		}
	}
	if len(x.Kids) == 0 {
		x.Kids = []api.Node{tangled(r, depth-1)}
	}
	if r.Intn(60) == 0 {
		x.Kids = append(x.Kids, tangled(r, min(depth-1, r.Intn(150))))
	}
	return x
}

// P6.1, P6.2: the order stands, wherever lines begin and end.
func TestTangled(t *testing.T) {
	r := rand.New(rand.NewSource(8))
	for range 10 {
		x := tangled(r, 90+r.Intn(300))
		var depths, ids []int
		for _, y := range plainly(x, 1) {
			depths, ids = append(depths, y.depth), append(ids, y.node.Id)
		}
		isWalked(t, x, depths, ids)
		if tree.Depth(x) != slices.Max(depths) || tree.Count(x) != len(ids) || !slices.Equal(tree.Ids(x), ids) {
			t.Error("another Depth, Count or Ids")
		}
		if tree.Show(x) != plainlyShown(x) {
			t.Error("another text")
		}
		is(t, "Copy", tree.Copy(x), x)
	}
}
