package normal_test

import (
	"math"
	"slices"
	"strconv"
	"strings"
	"testing"

	"allotment/api"
	"allotment/normal"
	"allotment/tree"
)

// node gives a node of the kind 0 in memory of its own.
func node(id int, kids ...api.Node) api.Node {
	return api.Node{Id: id, Kids: slices.Clone(kids)}
}

// said gives a node with a text.
func said(id int, text string, kids ...api.Node) api.Node {
	return api.Node{Id: id, Text: text, Kids: slices.Clone(kids)}
}

func insert(parent, place int, sub api.Node) api.Step {
	return api.Step{Op: api.StInsert, Parent: parent, Place: place, Sub: sub}
}

func remove(id int) api.Step {
	return api.Step{Op: api.StDelete, Id: id}
}

func move(id, parent, place int) api.Step {
	return api.Step{Op: api.StMove, Id: id, Parent: parent, Place: place}
}

func write(id int, text string) api.Step {
	return api.Step{Op: api.StText, Id: id, Text: text}
}

// row gives steps in memory of their own.
func row(l ...api.Step) []api.Step {
	return slices.Clone(l)
}

// alike tells whether two steps are the same in all fields, those that their Op does not name, too.
func alike(a, b api.Step) bool {
	return a.Op == b.Op && a.Id == b.Id && a.Parent == b.Parent && a.Place == b.Place && a.Text == b.Text && tree.Same(a.Sub, b.Sub)
}

// allAlike tells whether two rows are the same, step by step, in all fields.
func allAlike(a, b []api.Step) bool {
	return slices.EqualFunc(a, b, alike)
}

// shown gives a row as a text, with all fields.
func shown(l []api.Step) string {
	var s []string
	for _, x := range l {
		n := strconv.Itoa
		s = append(s, n(int(x.Op))+" "+n(x.Id)+" "+n(x.Parent)+" "+n(x.Place)+" "+strconv.Quote(x.Text)+" "+tree.Show(x.Sub))
	}
	return "[" + strings.Join(s, "; ") + "]"
}

// pair is two neighbours, and what is put in their place.
type pair struct {
	a, b api.Step
	want []api.Step
}

// bough gives a subtree of four nodes, with texts.
func bough() api.Node {
	return said(5, "five", said(6, "six", said(7, "seven")), said(8, "eight"))
}

// fitting are pairs that fit a rule.
func fitting() map[string]pair {
	long := strings.Repeat("w", 10_000)
	return map[string]pair{
		"1: two texts":                  {write(2, "a"), write(2, "b"), row(write(2, "b"))},
		"1: the same text":              {write(2, "a"), write(2, "a"), row(write(2, "a"))},
		"1: no text behind one":         {write(2, "a"), write(2, ""), row(write(2, ""))},
		"1: a text behind none":         {write(2, ""), write(2, "a"), row(write(2, "a"))},
		"1: one that is too long":       {write(2, "a"), write(2, long), row(write(2, long))},
		"1: any bytes":                  {write(2, "\xff"), write(2, "\x00\""), row(write(2, "\x00\""))},
		"1: the id 0":                   {write(0, "a"), write(0, "b"), row(write(0, "b"))},
		"1: an id below 0":              {write(-1, "a"), write(-1, "b"), row(write(-1, "b"))},
		"1: the greatest id":            {write(math.MaxInt, "a"), write(math.MaxInt, "b"), row(write(math.MaxInt, "b"))},
		"2: a node alone":               {insert(1, 0, node(5)), remove(5), nil},
		"2: with all below it":          {insert(9, -3, bough()), remove(5), nil},
		"2: one that has its id again":  {insert(1, 0, node(5, node(6), node(5))), remove(5), nil},
		"2: below itself":               {insert(5, 0, node(5)), remove(5), nil},
		"2: the id 0":                   {insert(1, 0, node(0)), remove(0), nil},
		"2: the least id":               {insert(1, 0, node(math.MinInt, node(4))), remove(math.MinInt), nil},
		"3: two moves":                  {move(2, 1, 0), move(2, 3, 1), row(move(2, 3, 1))},
		"3: to another place":           {move(2, 1, 0), move(2, 1, 3), row(move(2, 1, 3))},
		"3: to the same place":          {move(2, 1, 0), move(2, 1, 0), row(move(2, 1, 0))},
		"3: there, and where it was":    {move(2, 3, 1), move(2, 1, 0), row(move(2, 1, 0))},
		"3: such as never go":           {move(0, 0, -1), move(0, -7, math.MinInt), row(move(0, -7, math.MinInt))},
		"4: the root":                   {insert(1, 2, bough()), write(5, "x"), row(insert(1, 2, said(5, "x", said(6, "six", said(7, "seven")), said(8, "eight"))))},
		"4: the first kid":              {insert(1, 2, bough()), write(6, "x"), row(insert(1, 2, said(5, "five", said(6, "x", said(7, "seven")), said(8, "eight"))))},
		"4: the deepest node":           {insert(1, 2, bough()), write(7, "x"), row(insert(1, 2, said(5, "five", said(6, "six", said(7, "x")), said(8, "eight"))))},
		"4: the last kid":               {insert(1, 2, bough()), write(8, "x"), row(insert(1, 2, said(5, "five", said(6, "six", said(7, "seven")), said(8, "x"))))},
		"4: the text that it has":       {insert(1, 2, bough()), write(6, "six"), row(insert(1, 2, bough()))},
		"4: no text":                    {insert(1, 2, bough()), write(6, ""), row(insert(1, 2, said(5, "five", node(6, said(7, "seven")), said(8, "eight"))))},
		"4: one that is too long":       {insert(1, 0, node(5)), write(5, long), row(insert(1, 0, said(5, long)))},
		"4: kinds, and kids of nothing": {insert(1, 0, api.Node{Id: 5, Kind: -3, Kids: []api.Node{{Id: 6, Kind: 2, Kids: []api.Node{}}}}), write(6, "x"), row(insert(1, 0, api.Node{Id: 5, Kind: -3, Kids: []api.Node{{Id: 6, Kind: 2, Text: "x"}}}))},
		"4: the zero node":              {api.Step{Op: api.StInsert}, write(0, "x"), row(insert(0, 0, said(0, "x")))},
		"4: the root's id again":        {insert(1, 0, node(5, node(5), node(6, node(5)))), write(5, "x"), row(insert(1, 0, said(5, "x", node(5), node(6, node(5)))))},
		"4: the deeper one ahead":       {insert(1, 0, node(5, node(6, node(7)), node(7), node(7))), write(7, "x"), row(insert(1, 0, node(5, node(6, said(7, "x")), node(7), node(7))))},
		"4: the upper one ahead":        {insert(1, 0, node(5, node(7, node(7)), node(6, node(7)))), write(7, "x"), row(insert(1, 0, node(5, said(7, "x", node(7)), node(6, node(7)))))},
		"4: the last ones":              {insert(1, 0, node(5, node(6, node(4)), node(8), node(7, node(9)), node(7, node(9)))), write(9, "x"), row(insert(1, 0, node(5, node(6, node(4)), node(8), node(7, said(9, "x")), node(7, node(9)))))},
	}
}

// apart are pairs that fit no rule.
func apart() map[string]pair {
	m := map[string]pair{
		"1: another id":                     {a: write(2, "a"), b: write(3, "b")},
		"1: another id, the same text":      {a: write(2, "a"), b: write(3, "a")},
		"1: another id by its sign":         {a: write(2, "a"), b: write(-2, "a")},
		"1: another id by 2^32":             {a: write(2, "a"), b: write(1<<32+2, "a")},
		"1: the first one a move":           {a: move(2, 1, 0), b: write(2, "b")},
		"1: the second one a move":          {a: write(2, "a"), b: move(2, 1, 0)},
		"1: the first one a delete":         {a: remove(2), b: write(2, "b")},
		"1: the second one a delete":        {a: write(2, "a"), b: remove(2)},
		"2: a kid":                          {a: insert(1, 0, bough()), b: remove(6)},
		"2: a deep node":                    {a: insert(1, 0, bough()), b: remove(7)},
		"2: the last kid":                   {a: insert(1, 0, bough()), b: remove(8)},
		"2: the parent":                     {a: insert(1, 0, bough()), b: remove(1)},
		"2: by its place":                   {a: insert(1, 3, bough()), b: remove(3)},
		"2: not there":                      {a: insert(1, 0, bough()), b: remove(9)},
		"2: the other way round":            {a: remove(5), b: insert(1, 0, bough())},
		"2: two inserts":                    {a: insert(1, 0, bough()), b: insert(1, 0, bough())},
		"2: two deletes":                    {a: remove(5), b: remove(5)},
		"2: a move":                         {a: insert(1, 0, bough()), b: move(5, 1, 0)},
		"2: a move ahead":                   {a: move(5, 1, 0), b: remove(5)},
		"3: another id":                     {a: move(2, 1, 0), b: move(3, 1, 0)},
		"3: there and back of two":          {a: move(2, 3, 0), b: move(3, 2, 0)},
		"3: one's id is the other's parent": {a: move(2, 3, 0), b: move(3, 1, 0)},
		"4: not there":                      {a: insert(1, 0, bough()), b: write(9, "x")},
		"4: the parent":                     {a: insert(1, 0, bough()), b: write(1, "x")},
		"4: by its place":                   {a: insert(1, 3, bough()), b: write(3, "x")},
		"4: by its text":                    {a: insert(1, 0, said(5, "7")), b: write(7, "5")},
		"4: by its kind":                    {a: insert(1, 0, api.Node{Id: 5, Kind: 7}), b: write(7, "x")},
		"4: 0, and no 0":                    {a: insert(1, 0, bough()), b: write(0, "x")},
		"4: the other way round":            {a: write(7, "x"), b: insert(1, 0, bough())},
		"the zero steps":                    {},
	}
	full := api.Step{Id: 5, Parent: 5, Place: 5, Text: "x", Sub: node(5)}
	for _, a := range ops() {
		for _, b := range ops() {
			s, next := full, full
			s.Op, next.Op = a, b
			if !slices.Contains([][2]int8{{api.StText, api.StText}, {api.StInsert, api.StDelete}, {api.StMove, api.StMove}, {api.StInsert, api.StText}}, [2]int8{a, b}) {
				m["the Ops "+strconv.Itoa(int(a))+" and "+strconv.Itoa(int(b))] = pair{a: s, b: next}
			}
		}
	}
	return m
}

// ops are all Ops, and such as are none.
func ops() []int8 {
	return []int8{api.StInsert, api.StDelete, api.StMove, api.StText, 0, 5, 6, -1, -4, math.MaxInt8, math.MinInt8}
}

// pairs checks what is put in the place of two neighbours that fit a rule.
func pairs(t *testing.T, what string, p pair) {
	t.Helper()
	l, ok := normal.Pair(p.a, p.b)
	if !ok || !allAlike(l, p.want) {
		t.Errorf("%s: %s, %t; want %s", what, shown(l), ok, shown(p.want))
	}
	if normal.Is(row(p.a, p.b)) {
		t.Errorf("%s: none fits", what)
	}
}

// unpaired checks that two neighbours fit no rule.
func unpaired(t *testing.T, what string, p pair) {
	t.Helper()
	l, ok := normal.Pair(p.a, p.b)
	if ok || len(l) > 0 {
		t.Errorf("%s: %s, %t", what, shown(l), ok)
	}
	if !normal.Is(row(p.a, p.b)) {
		t.Errorf("%s: some fit", what)
	}
}

// The chapter's examples.
func TestExamples(t *testing.T) {
	for _, c := range []struct{ l, want []api.Step }{
		{row(write(2, "a"), write(2, "b"), write(3, "c")), row(write(2, "b"), write(3, "c"))},
		{row(insert(1, 0, node(5)), write(5, "a"), write(5, "b"), remove(5)), nil},
		{row(write(2, "a"), write(3, "b"), write(2, "c")), row(write(2, "a"), write(3, "b"), write(2, "c"))},
	} {
		if l := normal.Of(c.l); !allAlike(l, c.want) {
			t.Errorf("%s: %s; want %s", shown(c.l), shown(l), shown(c.want))
		}
	}
}

// P12.1: each rule.
func TestPair(t *testing.T) {
	for what, p := range fitting() {
		pairs(t, what, p)
	}
}

// P12.1: pairs that just miss a rule.
func TestPairNone(t *testing.T) {
	for what, p := range apart() {
		unpaired(t, what, p)
	}
}

// others are the fields that a step's Op does not go by, each set to something that the rules might take for another one.
func others(op int8) []func(*api.Step) {
	names := map[int8]string{api.StInsert: "IT", api.StDelete: "PLTS", api.StMove: "TS", api.StText: "PLS"}[op]
	var l []func(*api.Step)
	for _, id := range []int{0, 2, 5, 7, -9} {
		for name, set := range map[string]func(*api.Step){
			"I": func(s *api.Step) { s.Id = id },
			"P": func(s *api.Step) { s.Parent = id },
			"L": func(s *api.Step) { s.Place = id },
			"T": func(s *api.Step) { s.Text = strconv.Itoa(id) },
			"S": func(s *api.Step) { s.Sub = node(id, said(5, "x"), node(7)) },
		} {
			if strings.Contains(names, name) {
				l = append(l, set)
			}
		}
	}
	return l
}

// P12.1: fields that a step's Op does not go by make none fit and keep none from it, and a step that stays keeps them.
func TestPairFields(t *testing.T) {
	checked := 0
	for what, p := range fitting() {
		for _, set := range others(p.a.Op) {
			q := pair{p.a, p.b, slices.Clone(p.want)}
			set(&q.a)
			if len(q.want) > 0 && q.a.Op == api.StInsert {
				set(&q.want[0])
			}
			pairs(t, what, q)
			checked++
		}
		for _, set := range others(p.b.Op) {
			q := pair{p.a, p.b, slices.Clone(p.want)}
			set(&q.b)
			if len(q.want) > 0 && q.a.Op == q.b.Op {
				set(&q.want[0])
			}
			pairs(t, what, q)
			checked++
		}
	}
	for what, p := range apart() {
		for _, set := range others(p.a.Op) {
			q := p
			set(&q.a)
			unpaired(t, what, q)
			checked++
		}
		for _, set := range others(p.b.Op) {
			q := p
			set(&q.b)
			unpaired(t, what, q)
			checked++
		}
	}
	if checked < 1000 {
		t.Error("that tells little:", checked)
	}
}

// P12.1: a text that nodes of one Sub get one behind the other.
func TestPairAgain(t *testing.T) {
	s := insert(1, 0, bough())
	for _, id := range []int{7, 5, 8, 7, 6} {
		l, ok := normal.Pair(s, write(id, "x"+s.Sub.Text))
		if !ok || len(l) != 1 {
			t.Fatal(id, shown(l), ok)
		}
		s = l[0]
	}
	if want := insert(1, 0, said(5, "xfive", said(6, "xxfive", said(7, "xxfive")), said(8, "xxfive"))); !alike(s, want) {
		t.Error(shown(row(s)))
	}
}

// P12.1: Is of rows of none and of one, and what Pair tells of each two neighbours of longer ones.
func TestIs(t *testing.T) {
	if !normal.Is(nil) || !normal.Is([]api.Step{}) {
		t.Error("a row of none")
	}
	for what, p := range fitting() {
		if !normal.Is(row(p.a)) || !normal.Is(row(p.b)) {
			t.Errorf("%s: a row of one", what)
		}
		for _, between := range []api.Step{remove(91), {}, move(92, 93, 0)} {
			if !normal.Is(row(p.a, between, p.b)) {
				t.Errorf("%s: they are no neighbours", what)
			}
		}
	}
	some := row(write(2, "a"), write(5, "b"), insert(2, 0, node(5, node(2))), remove(5), remove(2), move(2, 5, 0), move(5, 1, 0), api.Step{Op: 7, Id: 2})
	fit := map[[2]int]bool{}
	for a := range some {
		for b := range some {
			_, fit[[2]int{a, b}] = normal.Pair(some[a], some[b])
		}
	}
	var down func(l []api.Step, last int, is bool)
	down = func(l []api.Step, last int, is bool) {
		if normal.Is(l) != is {
			t.Errorf("%s: %t", shown(l), !is)
		}
		for next := 0; next < len(some) && len(l) < 4; next++ {
			down(append(row(l...), some[next]), next, is && !fit[[2]int{last, next}])
		}
	}
	down(nil, -1, true)
}

// P12.1: a pair at any place of a row of just MaxSteps steps, and more.
func TestIsLong(t *testing.T) {
	for _, steps := range []int{2, api.MaxSteps - 1, api.MaxSteps, api.MaxSteps + 1, 3 * api.MaxSteps} {
		l := make([]api.Step, steps)
		for at := range l {
			l[at] = write(at, "x")
		}
		if !normal.Is(l) {
			t.Errorf("%d steps: some fit", steps)
		}
		for at := range l[1:] {
			was := l[at]
			l[at].Id = at + 1
			if normal.Is(l) {
				t.Errorf("%d steps: none fits at %d", steps, at)
			}
			l[at] = was
		}
	}
}
