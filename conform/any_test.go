package conform_test

import (
	"math"
	"math/rand"
	"reflect"
	"slices"
	"strings"
	"testing"

	"allotment/api"
	"allotment/conform"
)

// plainlyFits tells by the chapter's words whether kids can be cut into one stretch a slot.
func plainlyFits(slots []api.Slot, kids []int) bool {
	if len(slots) == 0 {
		return len(kids) == 0
	}
	s := slots[0]
	for length := 0; length <= min(s.Most, len(kids)); length++ {
		if length > 0 && !slices.Contains(s.Kinds, kids[length-1]) {
			return false
		}
		if length >= s.Least && plainlyFits(slots[1:], kids[length:]) {
			return true
		}
	}
	return false
}

// plainlyNode tells by the chapter's words whether x may be, of a grammar that may be.
func plainlyNode(g api.Grammar, x api.Node) bool {
	if x.Kind < 0 || x.Kind >= len(g.Kinds) {
		return false
	}
	k := g.Kinds[x.Kind]
	if x.Text != "" && (!k.Text || len(x.Text) > api.MaxWord) {
		return false
	}
	var kinds []int
	for _, kid := range x.Kids {
		kinds = append(kinds, kid.Kind)
	}
	return plainlyFits(k.Slots, kinds)
}

// standing is a node, and how deep it is.
type standing struct {
	node  api.Node
	depth int
}

// plainly gives the nodes of x in the walk.
func plainly(x api.Node, depth int) []standing {
	l := []standing{{x, depth}}
	for _, kid := range x.Kids {
		l = append(l, plainly(kid, depth+1)...)
	}
	return l
}

// plainlySub tells by the chapter's words what Sub has to, of a grammar that may be.
func plainlySub(g api.Grammar, x api.Node) (int, api.Errno) {
	l := plainly(x, 1)
	if len(l) > api.MaxNodes {
		return 0, api.ErrForm
	}
	for at, s := range l {
		twice := slices.ContainsFunc(l[:at], func(ahead standing) bool { return ahead.node.Id == s.node.Id })
		if twice || s.depth > api.MaxDepth || s.node.Id < 1 || s.node.Id > api.MaxNumber || !plainlyNode(g, s.node) {
			return at, api.ErrForm
		}
	}
	return 0, api.OK
}

// plainlyTree tells by the chapter's words what Tree has to, of a grammar that may be.
func plainlyTree(g api.Grammar, x api.Node) (int, api.Errno) {
	if x.Kind != g.Root {
		return 0, api.ErrForm
	}
	return plainlySub(g, x)
}

// grown gives some node of that kind that conforms to own, its ids from next on.
func grown(r *rand.Rand, kind int, next *int, depth int) api.Node {
	x := of(kind, *next)
	*next += 1 + r.Intn(2)
	if (kind == bed || kind == plant) && r.Intn(2) == 0 {
		x.Text = strings.Repeat("t", r.Intn(api.MaxWord+1))
	}
	kid := func(kind int) { x.Kids = append(x.Kids, grown(r, kind, next, depth+1)) }
	switch kind {
	case garden:
		for range r.Intn(5) {
			kid(bed)
		}
		for range r.Intn(3) {
			kid(path)
		}
	case bed:
		kid(plant)
		for range r.Intn(4) {
			if depth < 5 && r.Intn(2) == 0 {
				kid(bed)
			} else {
				kid(stone)
			}
		}
	}
	return x
}

// disturb changes one thing of some node.
func disturb(r *rand.Rand, x *api.Node) {
	all := pointers(x)
	n := all[r.Intn(len(all))]
	switch r.Intn(7) {
	case 0:
		n.Id = all[r.Intn(len(all))].Id
	case 1:
		n.Id = []int{0, -1, api.MaxNumber, api.MaxNumber + 1, math.MinInt, math.MaxInt}[r.Intn(6)]
	case 2:
		n.Kind = r.Intn(7) - 1
	case 3:
		n.Text = strings.Repeat("t", r.Intn(api.MaxWord+3))
	case 4:
		if len(n.Kids) > 0 {
			at := r.Intn(len(n.Kids))
			n.Kids = slices.Delete(n.Kids, at, at+1)
		}
	case 5:
		n.Kids = slices.Insert(n.Kids, r.Intn(len(n.Kids)+1), of(r.Intn(5), 1000+r.Intn(1000)))
	case 6:
		if len(n.Kids) > 1 {
			n.Kids[0], n.Kids[len(n.Kids)-1] = n.Kids[len(n.Kids)-1], n.Kids[0]
		}
	}
}

// P7.1, P7.2: of any trees, what the chapter's words tell.
func TestAny(t *testing.T) {
	r := rand.New(rand.NewSource(1))
	var wrong, later int
	for range 20_000 {
		next := 1
		g := own()
		kind := r.Intn(6) % 5
		x := grown(r, kind, &next, 1)
		if len(pointers(&x)) <= api.MaxNodes {
			isSub(t, "grown", g, x, 0, api.OK)
		}
		for range r.Intn(4) {
			disturb(r, &x)
		}
		g.Root = r.Intn(1 + r.Intn(5))
		at, e := plainlyTree(g, x)
		isTree(t, "any", g, x, at, e)
		at, e = plainlySub(g, x)
		isSub(t, "any", g, x, at, e)
		if e != api.OK {
			wrong++
		}
		if at > 0 {
			later++
		}
		for _, s := range plainly(x, 1) {
			if ok := conform.Node(g, s.node); ok != plainlyNode(g, s.node) {
				t.Errorf("Node of %v: %v", s.node, ok)
			}
		}
	}
	if wrong < 5000 || wrong > 18_000 || later < 4000 {
		t.Errorf("%d of 20000 were wrong, %d at a later node: that tells little", wrong, later)
	}
}

// P7.2: nodes by hand.
func TestNode(t *testing.T) {
	word := strings.Repeat("w", api.MaxWord)
	for what, c := range map[string]struct {
		x  api.Node
		ok bool
	}{
		"the zero node":                     {api.Node{}, true},
		"kids of nothing":                   {api.Node{Kids: []api.Node{}}, true},
		"ids aren't asked":                  {n(-1, of(bed, -1), of(path, math.MaxInt)), true},
		"two beds and two paths":            {n(1, of(bed, 2), of(bed, 3), of(path, 4), of(path, 5)), true},
		"three paths":                       {n(1, of(path, 2), of(path, 3), of(path, 4)), false},
		"a path ahead of a bed":             {n(1, of(path, 2), of(bed, 3)), false},
		"the kids themselves aren't asked":  {n(1, said(of(bed, 2, of(stone, 3, of(9, 4))), word+"x")), true},
		"a kid's text isn't asked":          {n(1, said(of(path, 2), "x")), true},
		"a kid of no kind":                  {n(1, of(9, 2)), false},
		"a kid of a kind below 0":           {n(1, of(-1, 2)), false},
		"a text where none may be":          {said(n(1), "x"), false},
		"a text where one may be":           {said(of(plant, 1), "x"), true},
		"no text where one may be":          {of(plant, 1), true},
		"a text of MaxWord bytes":           {said(of(plant, 1), word), true},
		"a text of one byte more":           {said(of(plant, 1), word+"w"), false},
		"a text and kids that fit":          {said(of(bed, 1, of(plant, 2), of(bed, 3), of(stone, 4)), "x"), true},
		"a text, kids that do not fit":      {said(of(bed, 1, of(stone, 2), of(plant, 4)), "x"), false},
		"kids that fit, a text too long":    {said(of(bed, 1, of(plant, 2)), word+"w"), false},
		"one kid lacks":                     {of(bed, 1), false},
		"a kid where none may be":           {of(stone, 1, of(stone, 2)), false},
		"the last kind":                     {of(path, 1), true},
		"past the last kind":                {of(path+1, 1), false},
		"past the last kind, a text":        {said(of(path+1, 1), "x"), false},
		"a kind below 0":                    {of(-1, 1), false},
		"the greatest number as its kind":   {of(math.MaxInt, 1), false},
		"the least number as its kind":      {of(math.MinInt, 1), false},
		"a kind that is the first by 2^32":  {of(1<<32, 1), false},
		"a kind that there is none of, bed": {of(bed-256, 1, of(plant, 2)), false},
	} {
		if ok := conform.Node(own(), c.x); ok != c.ok {
			t.Errorf("%s: %v", what, ok)
		}
	}
	g := own()
	for root := range 5 {
		g.Root = root
		if !conform.Node(g, of(bed, 1, of(plant, 2))) || conform.Node(g, of(bed, 1)) {
			t.Error("Root counts for nothing:", root)
		}
	}
	for count, ok := range map[int]bool{api.MaxNodes - 1: true, api.MaxNodes: true, api.MaxNodes + 1: false, api.MaxMany: false} {
		if conform.Node(lists(), flat(count+1)) != ok {
			t.Errorf("%d kids", count)
		}
	}
}

// P7.2: kinds in order, whatever they are.
func TestKinds(t *testing.T) {
	for what, c := range map[string]struct {
		x    api.Node
		want []int
	}{
		"none":               {n(1), nil},
		"kids of nothing":    {n(1, []api.Node{}...), nil},
		"an empty row":       {api.Node{Kids: []api.Node{}}, nil},
		"of small":           {small(), []int{bed, bed, path}},
		"of one below":       {small().Kids[1], []int{plant, bed}},
		"in order":           {n(1, of(3, 2), of(1, 3), of(2, 4), of(1, 5)), []int{3, 1, 2, 1}},
		"all the same":       {n(1, n(2), n(3)), []int{0, 0}},
		"such as there none": {n(1, of(-1, 2), of(math.MaxInt, 3), of(math.MinInt, 4)), []int{-1, math.MaxInt, math.MinInt}},
		"its own kind apart": {of(7, 1, of(8, 2, of(9, 3))), []int{8}},
	} {
		if l := conform.Kinds(c.x); !slices.Equal(l, c.want) {
			t.Errorf("%s: %v; want %v", what, l, c.want)
		}
	}
}

// roomy gives small with room behind each row of kids, and something in it.
func roomy(x api.Node) api.Node {
	l := make([]api.Node, len(x.Kids), len(x.Kids)+3)
	for i, kid := range x.Kids {
		l[i] = roomy(kid)
	}
	for i := range l[len(l):cap(l)] {
		l[len(l):cap(l)][i] = api.Node{Id: 77, Text: "room"}
	}
	x.Kids = l
	return x
}

// asWas checks that two trees are the same, room included.
func asWas(a, b []api.Node) bool {
	return len(a) == len(b) && cap(a) == cap(b) && slices.EqualFunc(a[:cap(a)], b[:cap(b)], func(x, y api.Node) bool {
		return x.Id == y.Id && x.Kind == y.Kind && x.Text == y.Text && asWas(x.Kids, y.Kids)
	})
}

// R3, R4: what was handed in is as it was, and the kinds that are told share no memory with it, nor with others.
func TestMemory(t *testing.T) {
	g, x := own(), roomy(small())
	x.Kids[1].Id = 1
	for range 2 {
		isBoth(t, "again", g, x, 4, api.ErrForm)
		conform.Node(g, x)
		a, b := conform.Kinds(x), conform.Kinds(x)
		for i := range a[:cap(a)] {
			a[:cap(a)][i] = 9
		}
		if !slices.Equal(b, []int{bed, bed, path}) {
			t.Error("two answers share memory:", b)
		}
	}
	want := roomy(small())
	want.Kids[1].Id = 1
	if !asWas([]api.Node{x}, []api.Node{want}) {
		t.Error("the tree that was handed in is changed:", x)
	}
	if !reflect.DeepEqual(g, own()) {
		t.Error("the grammar that was handed in is changed:", g)
	}
	x.Kids[1].Id = 10
	isBoth(t, "nothing is kept", g, x, 0, api.OK)
	g.Kinds[bed].Text = false
	isBoth(t, "nothing is kept of the grammar", g, x, 1, api.ErrForm)
}

// P7.3: of a tree that conforms each subtree conforms.
func TestEachSub(t *testing.T) {
	r := rand.New(rand.NewSource(2))
	count := 0
	for range 2000 {
		next := 1
		x := grown(r, garden, &next, 1)
		if _, e := conform.Tree(own(), x); e != api.OK {
			continue
		}
		for _, s := range plainly(x, 1) {
			isSub(t, "of one that conforms", own(), s.node, 0, api.OK)
			if !conform.Node(own(), s.node) {
				t.Error("Node:", s.node)
			}
			count++
		}
	}
	if count < 10_000 {
		t.Error("that tells little:", count)
	}
}

// P7.3: a subtree in the place of another one of the same kind.
func TestReplace(t *testing.T) {
	r := rand.New(rand.NewSource(3))
	var kept, none int
	for range 20_000 {
		next := 1
		x := grown(r, garden, &next, 1)
		all := pointers(&x)
		if len(all) > 60 {
			continue
		}
		old := all[r.Intn(len(all))]
		if r.Intn(2) == 0 {
			next = 1 + r.Intn(next) // so ids may be elsewhere too
		}
		sub := grown(r, old.Kind, &next, 1)
		for range r.Intn(3) {
			disturb(r, &sub)
		}
		if sub.Kind != old.Kind {
			continue
		}
		*old = sub
		_, subs := conform.Sub(own(), sub)
		ids := map[int]int{}
		twice := false
		for _, s := range plainly(x, 1) {
			ids[s.node.Id]++
			twice = twice || ids[s.node.Id] > 1
		}
		_, e := conform.Tree(own(), x)
		if want := subs == api.OK && !twice && len(plainly(x, 1)) <= api.MaxNodes; (e == api.OK) != want {
			t.Fatalf("put in: %v; the subtree: %v, an id twice: %v", e, subs, twice)
		} else if want {
			kept++
		} else {
			none++
		}
	}
	if kept < 3000 || none < 3000 {
		t.Error("that tells little:", kept, none)
	}
}

// P7.3: a subtree that conforms breaks the bounds where it is put: of nodes, and of depth.
func TestReplaceAtBounds(t *testing.T) {
	for sub := 1; sub < 100; sub++ {
		x := flat(150)
		put := flat(sub)
		for i, n := range pointers(&put) {
			n.Id = 1000 + i
		}
		x.Kids[70] = put
		at, e := 0, api.OK
		if 149+sub > api.MaxNodes {
			e = api.ErrForm
		}
		isSub(t, "it alone", lists(), put, 0, api.OK)
		isTree(t, "nodes", lists(), x, at, e)
	}
	for sub := 1; sub <= api.MaxDepth; sub++ {
		x := line(20)
		put := line(sub)
		for i, n := range pointers(&put) {
			n.Id = 1000 + i
		}
		*pointers(&x)[19] = put
		at, e := 0, api.OK
		if 19+sub > api.MaxDepth {
			at, e = api.MaxDepth, api.ErrForm
		}
		isSub(t, "it alone", lists(), put, 0, api.OK)
		isTree(t, "depth", lists(), x, at, e)
	}
}
