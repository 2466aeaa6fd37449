package within_test

import (
	"math/rand"
	"slices"
	"testing"

	"allotment/api"
	"allotment/place"
	"allotment/step"
	"allotment/tree"
	"allotment/within"
)

// below tells by their paths whether b's first node in the walk is in the subtree of a's.
func below(x api.Node, a, b int) bool {
	up, ok := place.Path(x, a)
	down, there := place.Path(x, b)
	return ok && there && len(down) >= len(up) && slices.Equal(down[:len(up)], up)
}

// plainly tells by the chapter's words whether a step is inside.
func plainly(x api.Node, root int, s api.Step) bool {
	switch s.Op {
	case api.StInsert:
		return below(x, root, s.Parent)
	case api.StDelete:
		return below(x, root, s.Id) && s.Id != root
	case api.StMove:
		return below(x, root, s.Id) && below(x, root, s.Parent) && s.Id != root
	case api.StText:
		return below(x, root, s.Id)
	}
	return false
}

// plainlyAll tells by the chapter's words what All has to, of a row that is a change set.
func plainlyAll(g api.Grammar, x api.Node, root int, l []api.Step) (int, api.Errno) {
	if _, there := place.Path(x, root); !there {
		return 0, api.ErrNone
	}
	for at, s := range l {
		if !plainly(x, root, s) {
			return at, api.ErrOutside
		}
		y, e := step.Do(g, x, s)
		if e != api.OK {
			return at, e
		}
		x = y
	}
	return len(l), api.OK
}

// anyTree gives some tree of at most so many nodes, with those ids.
func anyTree(r *rand.Rand, most int, id func() int) api.Node {
	nodes := 1 + r.Intn(most)
	var down func() api.Node
	down = func() api.Node {
		nodes--
		x := api.Node{Id: id(), Text: []string{"", "", "a"}[r.Intn(3)]}
		for nodes > 0 && r.Intn(8) < 5 {
			x.Kids = append(x.Kids, down())
		}
		return x
	}
	return down()
}

// once gives some tree, each id once, from that one on.
func once(r *rand.Rand, from, most int) api.Node {
	ids, next := r.Perm(2*most), 0
	return anyTree(r, most, func() int { next++; return from + ids[next] })
}

// many gives some tree in which ids may stand more than once, and such that may not be.
func many(r *rand.Rand, most int) api.Node {
	ids := 2 + r.Intn(most)
	return anyTree(r, most, func() int { return r.Intn(ids) - 1 })
}

// anyStep gives some step, mostly of the ids, with all fields set.
func anyStep(r *rand.Rand, ids []int) api.Step {
	id := func() int {
		if r.Intn(40) == 0 {
			return r.Intn(80) - 5
		}
		return ids[r.Intn(len(ids))]
	}
	s := api.Step{Op: int8(1 + r.Intn(4)), Id: id(), Parent: id(), Place: r.Intn(3), Text: []string{"", "b", "cc"}[r.Intn(3)], Sub: once(r, 1000+50*r.Intn(100), 5)}
	switch r.Intn(60) {
	case 0:
		s.Op = int8(r.Intn(256))
	case 1:
		s.Sub = many(r, 5)
	case 2:
		s.Place = r.Intn(9) - 3
	}
	return s
}

// anyRow gives some row for x: most steps that aren't inside root's subtree, or don't go, are left out.
func anyRow(r *rand.Rand, g api.Grammar, x api.Node, root int) []api.Step {
	var l []api.Step
	for range r.Intn(40) {
		from := x
		if top, there := tree.Find(x, root); there && r.Intn(30) > 0 {
			from = top
		}
		s := anyStep(r, tree.Ids(from))
		y, e := step.Do(g, x, s)
		if (e != api.OK || !plainly(x, root, s)) && r.Intn(20) > 0 {
			continue
		}
		l = append(l, s)
		if e == api.OK {
			x = y
		}
	}
	return l
}

// P13.1: of any trees and steps, what the chapter's words tell.
func TestStepAny(t *testing.T) {
	r := rand.New(rand.NewSource(131))
	told := map[int8]map[bool]int{}
	for at := range 40_000 {
		x := once(r, 1, 20)
		if at%2 == 0 {
			x = many(r, 20)
		}
		ids := tree.Ids(x)
		root := ids[r.Intn(len(ids))]
		if r.Intn(20) == 0 {
			root = r.Intn(50) - 5
		}
		s := anyStep(r, ids)
		want := plainly(x, root, s)
		if in := within.Step(x, root, s); in != want {
			t.Fatalf("%s, root %d, %v: %t; want %t", tree.Show(x), root, s, in, want)
		}
		if told[s.Op] == nil {
			told[s.Op] = map[bool]int{}
		}
		told[s.Op][want]++
	}
	for op := api.StInsert; op <= api.StText; op++ {
		if told[op][true] < 500 || told[op][false] < 500 {
			t.Errorf("the Op %d: %v: that tells little", op, told[op])
		}
	}
}

// P13.2: of any trees and rows, what the chapter's words tell.
func TestAllAny(t *testing.T) {
	r := rand.New(rand.NewSource(132))
	told := map[api.Errno]int{}
	behind := 0
	for at := range 6000 {
		x := once(r, 1, 20)
		if at%8 == 0 {
			x = many(r, 8)
		}
		ids := tree.Ids(x)
		root := ids[r.Intn(len(ids))]
		if r.Intn(40) == 0 {
			root = r.Intn(50) - 5
		}
		l := anyRow(r, lists(), x, root)
		if r.Intn(20) == 0 {
			l = append(l, insert(root, 0, once(r, 1, 6))) // mostly of ids that are there
		}
		want, wantE := plainlyAll(lists(), x, root, l)
		if at, e := within.All(lists(), x, root, l); at != want || e != wantE {
			t.Fatalf("%s, root %d, %v: %d, %v; want %d, %v", tree.Show(x), root, l, at, e, want, wantE)
		}
		told[wantE]++
		if wantE != api.OK && want > 2 {
			behind++
		}
	}
	for _, e := range []api.Errno{api.OK, api.ErrNone, api.ErrOutside, api.ErrArg, api.ErrTwice, api.ErrForm, api.ErrLoop} {
		if told[e] < 20 {
			t.Errorf("%d rows told %v: that tells little: %v", told[e], e, told)
		}
	}
	if behind < 300 {
		t.Errorf("%d rows failed behind the first steps: that tells little", behind)
	}
}

// behind gives the tree behind a row that goes.
func behind(t *testing.T, g api.Grammar, x api.Node, l []api.Step) api.Node {
	t.Helper()
	for _, s := range l {
		y, e := step.Do(g, x, s)
		if e != api.OK {
			t.Fatalf("%s, %v: %v", tree.Show(x), s, e)
		}
		x = y
	}
	return x
}

// keeps checks by P13.3 that y is x with the root's subtree changed alone: it stands where it stood, and all outside is as it was.
func keeps(t *testing.T, x api.Node, root int, l []api.Step, y api.Node) {
	t.Helper()
	was, _ := place.Path(x, root)
	path, there := place.Path(y, root)
	if !there || !slices.Equal(path, was) {
		t.Errorf("%s, root %d, %v: it stands elsewhere: %s", tree.Show(x), root, l, tree.Show(y))
	}
	parent, at, ok := place.Parent(x, root)
	if up, now, still := place.Parent(y, root); up != parent || now != at || still != ok {
		t.Errorf("%s, root %d, %v: it stands below %d at %d: %s", tree.Show(x), root, l, up, now, tree.Show(y))
	}
	blank := api.Node{Id: root}
	outside, _ := place.Put(x, root, blank)
	left, _ := place.Put(y, root, blank)
	if !tree.Same(left, outside) {
		t.Errorf("%s, root %d, %v: changed outside: %s", tree.Show(x), root, l, tree.Show(y))
	}
	top, _ := tree.Find(y, root)
	if z, e := place.Put(x, root, top); e != api.OK || !tree.Same(z, y) {
		t.Errorf("%s, root %d, %v: not the subtree alone: %s", tree.Show(x), root, l, tree.Show(y))
	}
}

// insideAbove checks by P13.4 that a row is inside of each node's subtree above the root, too.
func insideAbove(t *testing.T, x api.Node, root int, l []api.Step) (count int) {
	t.Helper()
	for above := range place.Above(x, root) {
		if at, e := within.All(lists(), x, above, l); at != len(l) || e != api.OK {
			t.Errorf("%s, root %d, %v: of %d, above it: %d, %v", tree.Show(x), root, l, above, at, e)
		}
		count++
	}
	return count
}

// P13.3, P13.4: rows that are inside, on each root of a tree.
func TestFollows(t *testing.T) {
	sub := node(30, node(31))
	for root, l := range map[int][]api.Step{
		20: row(write(20, "a"), move(3, 21, 0), remove(1), insert(20, 0, sub)),
		1:  row(write(1, "a"), move(2, 9, 0), remove(4), insert(1, 1, sub), move(3, 31, 0)),
		3:  row(write(3, "a"), move(10, 9, 0), remove(7), insert(3, 0, sub), move(9, 3, 0), write(10, "b")),
		6:  row(write(6, "a"), remove(9), insert(6, 0, sub), move(31, 6, 1)),
		9:  row(insert(9, 0, sub), insert(9, 0, node(9_000, node(9_001))), move(9_001, 31, 0), write(9, "a")),
		22: row(insert(22, 0, sub), write(31, "a"), remove(31), remove(30)),
		23: row(write(23, "a"), insert(23, 0, sub)),
	} {
		for count := range len(l) + 1 {
			goes(t, "inside", lists(), wide(), root, l[:count])
			keeps(t, wide(), root, l[:count], behind(t, lists(), wide(), l[:count]))
			above := slices.Collect(place.Above(wide(), root))
			if told := insideAbove(t, wide(), root, l[:count]); told != len(above) || (told == 0) != (root == 20) {
				t.Error("above it are", told)
			}
		}
	}
}

// P13.3, P13.4: any rows.
func TestFollowsAny(t *testing.T) {
	r := rand.New(rand.NewSource(134))
	rows, steps, above := 0, 0, 0
	for range 4000 {
		x := once(r, 1, 25)
		ids := tree.Ids(x)
		root := ids[r.Intn(len(ids))]
		l := anyRow(r, lists(), x, root)
		at, e := within.All(lists(), x, root, l)
		if e != api.OK {
			l = l[:at] // those are inside, and go
		}
		keeps(t, x, root, l, behind(t, lists(), x, l))
		above += insideAbove(t, x, root, l)
		rows, steps = rows+1, steps+len(l)
	}
	if steps < 4*rows || above < rows {
		t.Errorf("%d rows of %d steps, %d nodes above: that tells little", rows, steps, above)
	}
}

// P13.3: also where an id stood twice till the first step took one of them.
func TestFollowsTwice(t *testing.T) {
	for _, x := range []api.Node{
		node(1, node(2, node(5, node(6)), node(7)), node(6), node(8, node(9))),
		node(1, node(8, node(9)), node(2, node(5, node(6)), node(6), node(7))),
		node(1, node(8), node(2, node(5, node(2), node(6))), node(9)),
	} {
		l := row(remove(5), insert(2, 0, node(30, node(5))), write(2, "a"), write(5, "b"))
		goes(t, "twice", lists(), x, 2, l)
		keeps(t, x, 2, l, behind(t, lists(), x, l))
	}
}

// P13.4: of single steps, too, whether they go or not.
func TestStepAbove(t *testing.T) {
	r := rand.New(rand.NewSource(4))
	inside := 0
	for range 5000 {
		x := once(r, 1, 20)
		ids := tree.Ids(x)
		root := ids[r.Intn(len(ids))]
		s := anyStep(r, ids)
		if !within.Step(x, root, s) {
			continue
		}
		inside++
		for above := range place.Above(x, root) {
			is(t, "above", x, above, s, true)
		}
	}
	if inside < 1000 {
		t.Errorf("%d were inside: that tells little", inside)
	}
}
