package normal_test

import (
	"math/rand"
	"slices"
	"testing"

	"allotment/api"
	"allotment/conform"
	"allotment/normal"
	"allotment/step"
	"allotment/tree"
)

// first gives the first node of that id in the walk of x, by the chapter's words.
func first(x *api.Node, id int) *api.Node {
	if x.Id == id {
		return x
	}
	for at := range x.Kids {
		if n := first(&x.Kids[at], id); n != nil {
			return n
		}
	}
	return nil
}

// plainPair tells by the chapter's words what is put in the place of two neighbours, and which rule they fit; none, 0.
func plainPair(a, b api.Step) (l []api.Step, rule int) {
	switch {
	case a.Op == api.StText && b.Op == api.StText && a.Id == b.Id:
		return row(b), 1
	case a.Op == api.StInsert && b.Op == api.StDelete && b.Id == a.Sub.Id:
		return nil, 2
	case a.Op == api.StMove && b.Op == api.StMove && a.Id == b.Id:
		return row(b), 3
	case a.Op == api.StInsert && b.Op == api.StText:
		a.Sub = tree.Copy(a.Sub)
		if n := first(&a.Sub, b.Id); n != nil {
			n.Text = b.Text
			return row(a), 4
		}
	}
	return nil, 0
}

// plainWays tells by the chapter's words the rows on the way to a row's normal form, and which rules make them.
func plainWays(l []api.Step) (rows [][]api.Step, rules []int) {
	rows = [][]api.Step{l}
again:
	for at := 0; at+1 < len(l); at++ {
		if stays, rule := plainPair(l[at], l[at+1]); rule > 0 {
			l = slices.Concat(l[:at], stays, l[at+2:])
			rows, rules = append(rows, l), append(rules, rule)
			goto again
		}
	}
	return rows, rules
}

// wildNode gives some tree of few ids, many of which stand more than once.
func wildNode(r *rand.Rand, depth int) api.Node {
	x := api.Node{Id: r.Intn(5), Kind: r.Intn(3), Text: []string{"", "a", "b"}[r.Intn(3)]}
	for range r.Intn(4 - depth) {
		x.Kids = append(x.Kids, wildNode(r, depth+1))
	}
	return x
}

// wildStep gives some step of few ids, with all fields set; seldom of an Op that is none.
func wildStep(r *rand.Rand) api.Step {
	s := api.Step{Op: []int8{api.StInsert, api.StInsert, api.StDelete, api.StDelete, api.StMove, api.StMove, api.StText, api.StText}[r.Intn(8)]}
	if r.Intn(20) == 0 {
		s.Op = int8(r.Intn(256))
	}
	s.Id, s.Parent, s.Place, s.Text = r.Intn(5), r.Intn(5), r.Intn(5)-1, []string{"", "a", "b", "c"}[r.Intn(4)]
	s.Sub = wildNode(r, 1)
	return s
}

// P12.1, P12.2, P12.4: of any rows, what the chapter's words tell.
func TestAny(t *testing.T) {
	r := rand.New(rand.NewSource(12))
	went, fresh, still := map[int]int{}, 0, 0
	for range 4000 {
		l := make([]api.Step, r.Intn(1+r.Intn(api.MaxSteps+20)))
		for at := range l {
			l[at] = wildStep(r)
		}
		rows, rules := plainWays(l)
		goes(t, "any", rows...)
		for at := range len(l) - 1 {
			want, rule := plainPair(l[at], l[at+1])
			if told, ok := normal.Pair(l[at], l[at+1]); ok != (rule > 0) || !allAlike(told, want) {
				t.Errorf("%s: %s, %t", shown(l[at:at+2]), shown(told), ok)
			}
		}
		isNormal(t, l, normal.Of(l))
		for at, rule := range rules {
			went[rule]++
			if rule == 2 && at+1 < len(rules) && len(rows[at+1]) > 1 && !normal.Is(rows[at+1]) {
				fresh++
			}
		}
		if len(rules) == 0 {
			still++
		}
	}
	for rule := 1; rule <= 4; rule++ {
		if went[rule] < 500 {
			t.Errorf("the rule %d went %d times: that tells little", rule, went[rule])
		}
	}
	if fresh < 300 || still < 200 {
		t.Errorf("%d went on behind a rule that left none, %d were as they are: that tells little", fresh, still)
	}
}

// isNormal checks by P12.4 that form is its own normal form, and has at most as many steps as l.
func isNormal(t *testing.T, l, form []api.Step) {
	t.Helper()
	if again := normal.Of(form); !allAlike(again, form) || !normal.Is(form) || len(form) > len(l) {
		t.Errorf("%s: %s; again %s", shown(l), shown(form), shown(again))
	}
	for at := range len(form) - 1 {
		if stays, ok := normal.Pair(form[at], form[at+1]); ok {
			t.Errorf("%s: at %d fits still: %s", shown(form), at, shown(stays))
		}
	}
	if told := ways(form); len(told) != 1 || !allAlike(told[0], form) {
		t.Errorf("%s: it goes on for %d rows", shown(form), len(told))
	}
}

// plot gives some tree in which no id stands twice; ids gives them.
func plot(r *rand.Rand, nodes int, ids func() int) api.Node {
	x := api.Node{Id: ids(), Kind: r.Intn(3), Text: []string{"", "", "a", "bb"}[r.Intn(4)]}
	for left := nodes - 1; left > 0; {
		part := 1 + r.Intn(left)
		x.Kids = append(x.Kids, plot(r, part, ids))
		left -= part
	}
	return x
}

// upward gives ids from there on.
func upward(from int) func() int {
	return func() int {
		from++
		return from - 1
	}
}

// kinds gives a grammar whose root is of that kind, and that is content with most trees of plot, or with some of them.
func kinds(root int, few bool) api.Grammar {
	g := api.Grammar{Root: root}
	for _, name := range []string{"a", "b", "c"} {
		slots := []api.Slot{{Kinds: []int{0, 1, 2}, Most: 40}}
		if few && name == "c" {
			slots = []api.Slot{{Kinds: []int{0, 1}, Most: 5}, {Kinds: []int{2}, Most: 3}}
		}
		g.Kinds = append(g.Kinds, api.Kind{Name: name, Text: !few || name != "b", Slots: slots})
	}
	return g
}

// next gives some step for x, often one that fits a rule behind the last one. Ids come again when they went.
func next(r *rand.Rand, x api.Node, last api.Step) api.Step {
	ids := tree.Ids(x)
	s := api.Step{Op: int8(1 + r.Intn(4)), Id: ids[r.Intn(len(ids))], Parent: ids[r.Intn(len(ids))], Place: r.Intn(3), Text: []string{"", "a", "cc"}[r.Intn(3)]}
	s.Sub = plot(r, 1+r.Intn(5), upward(100+10*r.Intn(5)))
	if r.Intn(2) == 0 {
		switch last.Op {
		case api.StText, api.StMove:
			s.Op, s.Id = last.Op, last.Id
		case api.StInsert:
			s.Op, s.Id = api.StText, tree.Ids(last.Sub)[r.Intn(tree.Count(last.Sub))]
			if r.Intn(4) == 0 {
				s.Op, s.Id = api.StDelete, last.Sub.Id
			}
		}
	}
	return s
}

// going gives some row for x of which all steps go.
func going(r *rand.Rand, x api.Node, do func(api.Node, api.Step) (api.Node, api.Errno)) []api.Step {
	var l []api.Step
	for range r.Intn(2 * api.MaxSteps) {
		last := api.Step{}
		if len(l) > 0 {
			last = l[len(l)-1]
		}
		s := next(r, x, last)
		if y, e := do(x, s); e == api.OK {
			x, l = y, append(l, s)
		}
	}
	return l
}

// comesTo does a row's steps one by one, all of which are to go.
func comesTo(t *testing.T, x api.Node, l []api.Step, do func(api.Node, api.Step) (api.Node, api.Errno)) api.Node {
	t.Helper()
	for at, s := range l {
		y, e := do(x, s)
		if e != api.OK {
			t.Fatalf("%s on %s: at %d: %v", shown(l), tree.Show(x), at, e)
		}
		x = y
	}
	return x
}

// P12.3, P12.4: where all steps of a row go, all of its normal form go, too, and come to the same; and so does each row on the way.
func TestComesToTheSame(t *testing.T) {
	r := rand.New(rand.NewSource(123))
	went := map[int]int{}
	for round := range 3000 {
		x := plot(r, 1+r.Intn(25), upward(1))
		do := step.Apply
		if g := kinds(x.Kind, r.Intn(2) == 0); round%2 == 0 {
			if _, e := conform.Tree(g, x); e != api.OK && r.Intn(4) > 0 {
				continue // a row that goes there makes it conform first
			}
			do = func(x api.Node, s api.Step) (api.Node, api.Errno) { return step.Do(g, x, s) }
		}
		l := going(r, x, do)
		want := comesTo(t, x, l, do)
		form := normal.Of(l)
		if y := comesTo(t, x, form, do); !tree.Same(y, want) {
			t.Errorf("%s: %s comes to %s, %s to %s", tree.Show(x), shown(l), tree.Show(want), shown(form), tree.Show(y))
		}
		isNormal(t, l, form)
		if round%10 == 0 {
			for way := range normal.Steps(l) {
				if y := comesTo(t, x, way, do); !tree.Same(y, want) {
					t.Errorf("%s: on the way %s comes to %s", tree.Show(x), shown(way), tree.Show(y))
				}
			}
		}
		_, rules := plainWays(l)
		for _, rule := range rules {
			went[rule]++
		}
	}
	for rule := 1; rule <= 4; rule++ {
		if went[rule] < 1000 {
			t.Errorf("the rule %d went %d times: that tells little", rule, went[rule])
		}
	}
}

// P12.3: by hand, of each rule.
func TestComesToTheSameByHand(t *testing.T) {
	x := node(1, said(2, "two"), node(3, node(4), said(9, "nine")))
	g := api.Grammar{Kinds: []api.Kind{{Name: "list", Text: true, Slots: []api.Slot{{Kinds: []int{0}, Most: 9}}}}}
	do := func(x api.Node, s api.Step) (api.Node, api.Errno) { return step.Do(g, x, s) }
	for _, c := range []struct {
		want string
		left int
		l    []api.Step
	}{
		{`1:0(2:0"b",3:0(4:0,9:0"nine"))`, 1, row(write(2, "a"), write(2, "b"))},
		{`1:0(2:0"two",3:0(4:0,9:0"nine"))`, 0, row(insert(3, 1, bough()), remove(5))},
		{`1:0(3:0(4:0,2:0"two",9:0"nine"))`, 1, row(move(2, 1, 1), move(2, 3, 1))},
		{`1:0(2:0"two",3:0(4:0,9:0"nine"))`, 1, row(move(2, 3, 2), move(2, 1, 0))},
		{`1:0(2:0"two",3:0(9:0"nine",4:0))`, 1, row(move(9, 2, 0), move(9, 3, 0))},
		{`1:0(2:0"two"(5:0"five"(6:0"six"(7:0"x"),8:0"eight")),3:0(4:0,9:0"nine"))`, 1, row(insert(2, 0, bough()), write(7, "x"))},
		{`1:0(2:0"two",3:0(4:0,5:0"five"(6:0"six"(7:0"y"),8:0"z"),9:0"nine"))`, 1, row(insert(3, 1, bough()), write(7, "x"), write(7, "y"), write(8, "z"))},
		{`1:0(2:0"two"(9:0"b"),3:0(4:0))`, 2, row(write(9, "a"), insert(1, 0, bough()), write(7, "x"), remove(5), write(9, "b"), move(9, 3, 0), move(9, 2, 0))},
	} {
		form := normal.Of(c.l)
		if len(form) != c.left {
			t.Errorf("%s: %s", shown(c.l), shown(form))
		}
		for _, l := range [][]api.Step{c.l, form} {
			if s := tree.Show(comesTo(t, x, l, step.Apply)); s != c.want {
				t.Errorf("%s: %s; want %s", shown(l), s, c.want)
			}
			if s := tree.Show(comesTo(t, x, l, do)); s != c.want {
				t.Errorf("%s: by Do %s; want %s", shown(l), s, c.want)
			}
		}
	}
}
