package grammar_test

import (
	"fmt"
	"math"
	"math/rand"
	"reflect"
	"slices"
	"strings"
	"testing"

	"allotment/api"
	"allotment/grammar"
)

// slot gives a slot.
func slot(least, most int, kinds ...int) api.Slot {
	return api.Slot{Kinds: kinds, Least: least, Most: most}
}

// rich gives a grammar with all that one can have, in memory of its own.
func rich() api.Grammar {
	return api.Grammar{
		Kinds: []api.Kind{
			{Name: "leaf"},
			{Name: "book", Slots: []api.Slot{slot(1, 1, 2), slot(0, 3, 3, 4), slot(2, 5, 0, 3)}},
			{Name: "title", Text: true},
			{Name: "part", Text: true, Slots: []api.Slot{slot(0, api.MaxMany, 0, 3, 4)}},
			{Name: "note", Slots: []api.Slot{slot(0, 0, 0), slot(0, 1, 2)}},
		},
		Root: 1,
	}
}

// with gives the grammar rich, changed.
func with(change func(g *api.Grammar)) api.Grammar {
	g := rich()
	change(&g)
	return g
}

// big gives a grammar at all bounds at once.
func big() api.Grammar {
	var all []int
	for kind := range api.MaxKinds {
		all = append(all, kind)
	}
	g := api.Grammar{Root: api.MaxKinds - 1}
	for kind := range api.MaxKinds {
		k := api.Kind{Name: fmt.Sprintf("%0*d", api.MaxWord, kind), Text: true}
		for range api.MaxSlots {
			k.Slots = append(k.Slots, slot(0, api.MaxMany, all...))
		}
		g.Kinds = append(g.Kinds, k)
	}
	return g
}

// one gives a grammar of two kinds with texts, a (1) and b (2), and of a root (0) with those slots.
func one(slots ...api.Slot) api.Grammar {
	return api.Grammar{Kinds: []api.Kind{{Name: "root", Slots: slots}, {Name: "a", Text: true}, {Name: "b", Text: true}}}
}

// copied gives g in memory of its own.
func copied(g api.Grammar) api.Grammar {
	g.Kinds = slices.Clone(g.Kinds)
	for i := range g.Kinds {
		k := &g.Kinds[i]
		k.Slots = slices.Clone(k.Slots)
		for j := range k.Slots {
			k.Slots[j].Kinds = slices.Clone(k.Slots[j].Kinds)
		}
	}
	return g
}

// longKinds gives n kinds with different names.
func longKinds(n int) []api.Kind {
	l := make([]api.Kind, n)
	for i := range l {
		l[i].Name = fmt.Sprint("k", i)
	}
	return l
}

// right are grammars that may be.
func right() map[string]api.Grammar {
	return map[string]api.Grammar{
		"rich":                       rich(),
		"at all bounds":              big(),
		"one kind":                   {Kinds: longKinds(1)},
		"one kind that takes itself": {Kinds: []api.Kind{{Name: "x", Slots: []api.Slot{slot(0, 1, 0)}}}},
		"a kind that needs itself":   {Kinds: []api.Kind{{Name: "x", Slots: []api.Slot{slot(1, 1, 0)}}}},
		"all kinds":                  {Kinds: longKinds(api.MaxKinds)},
		"the last kind is the root":  {Kinds: longKinds(api.MaxKinds), Root: api.MaxKinds - 1},
		"a name of one byte":         with(func(g *api.Grammar) { g.Kinds[0].Name = "\x00" }),
		"a name of MaxWord bytes":    with(func(g *api.Grammar) { g.Kinds[0].Name = strings.Repeat("x", api.MaxWord) }),
		"a name that is no UTF-8":    with(func(g *api.Grammar) { g.Kinds[0].Name = "\xff\xfe" }),
		"names that differ in case":  with(func(g *api.Grammar) { g.Kinds[0].Name = "Book" }),
		"a name that begins another": with(func(g *api.Grammar) { g.Kinds[0].Name = "boo" }),
		"MaxSlots slots":             with(func(g *api.Grammar) { g.Kinds[0].Slots = slices.Repeat([]api.Slot{slot(0, 1, 0)}, api.MaxSlots) }),
		"no slots, no nil":           with(func(g *api.Grammar) { g.Kinds[0].Slots = []api.Slot{} }),
		"Least and Most 0":           one(slot(0, 0, 1)),
		"Least as Most":              one(slot(3, 3, 1)),
		"Most at MaxMany":            one(slot(0, api.MaxMany, 1)),
		"Least at MaxMany":           one(slot(api.MaxMany, api.MaxMany, 1)),
		"the first kind":             one(slot(0, 1, 0)),
		"the last kind":              one(slot(0, 1, 2)),
		"kinds with a gap":           one(slot(0, 1, 0, 2)),
		"all kinds in a slot":        one(slot(0, 1, 0, 1, 2)),
	}
}

// wrong are grammars that may not be. Each but the first ones has kinds by which calls would answer something, if it might be.
func wrong() map[string]api.Grammar {
	l := map[string]api.Grammar{
		"zero":                  {},
		"no kinds, no nil":      {Kinds: []api.Kind{}},
		"no kinds, Root -1":     {Root: -1},
		"one kind too many":     {Kinds: longKinds(api.MaxKinds + 1)},
		"very many kinds":       {Kinds: longKinds(1 << 18)},
		"very many empty kinds": {Kinds: make([]api.Kind, 1<<18)},
		"two kinds of one name": with(func(g *api.Grammar) { g.Kinds[4].Name = "leaf" }),
		"two neighbours":        with(func(g *api.Grammar) { g.Kinds[1].Name = g.Kinds[0].Name }),
		"no name":               with(func(g *api.Grammar) { g.Kinds[4].Name = "" }),
		"a long name":           with(func(g *api.Grammar) { g.Kinds[0].Name = strings.Repeat("x", api.MaxWord+1) }),
		"a very long name":      with(func(g *api.Grammar) { g.Kinds[2].Name = strings.Repeat("x", 1<<20) }),
		"runes count as bytes":  with(func(g *api.Grammar) { g.Kinds[0].Name = strings.Repeat("é", api.MaxWord/2+1) }),
		"one slot too many":     with(func(g *api.Grammar) { g.Kinds[4].Slots = slices.Repeat([]api.Slot{slot(0, 1, 0)}, api.MaxSlots+1) }),
		"very many slots":       with(func(g *api.Grammar) { g.Kinds[0].Slots = slices.Repeat([]api.Slot{slot(0, 1, 0)}, 1<<18) }),
	}
	for _, root := range []int{-1, math.MinInt, 5, 6, api.MaxKinds, 256, 1 << 32, 1<<32 + 1, math.MaxInt} {
		l[fmt.Sprint("Root ", root)] = with(func(g *api.Grammar) { g.Root = root })
	}
	for i, s := range wrongSlots() {
		l[fmt.Sprint("the slot ", i, " as the first one")] = with(func(g *api.Grammar) { g.Kinds[1].Slots[0] = s })
		l[fmt.Sprint("the slot ", i, " as the last one")] = with(func(g *api.Grammar) { g.Kinds[4].Slots[1] = s })
	}
	return l
}

// wrongSlots are slots that may not be, where there are five kinds.
func wrongSlots() []api.Slot {
	return []api.Slot{
		{}, slot(0, 1), {Kinds: []int{}, Most: 1},
		slot(0, 1, -1), slot(0, 1, -1, 0), slot(0, 1, math.MinInt), slot(0, 1, math.MinInt, 3),
		slot(0, 1, 5), slot(0, 1, 0, 5), slot(0, 1, math.MaxInt), slot(0, 1, 1<<32), slot(0, 1, 256), slot(0, 1, api.MaxKinds),
		slot(0, 1, 1, 0), slot(0, 1, 0, 2, 1), slot(0, 1, 4, 3, 2, 1, 0),
		slot(0, 1, 0, 0), slot(0, 1, 3, 3), slot(0, 1, 0, 1, 1, 2), slot(0, 1, 0, 1, 2, 3, 4, 4), slot(0, 1, 0, 1, 0),
		{Kinds: make([]int, api.MaxKinds+1), Most: 1}, {Kinds: make([]int, 1<<18), Most: 1},
		slot(-1, 1, 0), slot(-1, -1, 0), slot(math.MinInt, 0, 0), slot(math.MinInt, math.MaxInt, 0),
		slot(2, 1, 0), slot(1, 0, 0), slot(math.MaxInt, 0, 0), slot(0, -1, 0), slot(0, math.MinInt, 0), slot(api.MaxMany+1, api.MaxMany, 0),
		slot(0, api.MaxMany+1, 0), slot(api.MaxMany+1, api.MaxMany+1, 0), slot(0, math.MaxInt, 0), slot(math.MaxInt, math.MaxInt, 0), slot(0, 1<<32, 0),
	}
}

// P5.1: Check.
func TestCheck(t *testing.T) {
	for what, g := range right() {
		if e := grammar.Check(g); e != api.OK {
			t.Errorf("%s: %v", what, e)
		}
	}
	for what, g := range wrong() {
		if e := grammar.Check(g); e != api.ErrGrammar {
			t.Errorf("%s: %v", what, e)
		}
	}
	if api.ErrGrammar != 50 {
		t.Error("ErrGrammar:", api.ErrGrammar)
	}
}

// P5.1: a slot's kinds may be all that there are, up to MaxKinds of them, and not one more.
func TestSlotOfAllKinds(t *testing.T) {
	for count := 1; count <= api.MaxKinds; count++ {
		g := api.Grammar{Kinds: longKinds(count)}
		var l []int
		for kind := range count {
			l = append(l, kind)
			g.Kinds[0].Slots = []api.Slot{slot(0, 1, l...)}
			if e := grammar.Check(g); e != api.OK {
				t.Errorf("%d of %d kinds: %v", kind+1, count, e)
			}
		}
		g.Kinds[0].Slots = []api.Slot{slot(0, 1, append(l, count)...)}
		if e := grammar.Check(g); e != api.ErrGrammar {
			t.Errorf("%d of %d kinds: %v", count+1, count, e)
		}
	}
}

// P5.1: Find, of each name, and of none.
func TestFind(t *testing.T) {
	for what, g := range right() {
		for kind, k := range g.Kinds {
			if found, ok := grammar.Find(g, k.Name); found != kind || !ok {
				t.Errorf("%s: Find %q: %d, %v; want %d", what, k.Name, found, ok, kind)
			}
		}
		for _, name := range []string{"", "nobody", "LEAF", "leaf ", " leaf", "lea", "leaf\x00", "0", strings.Repeat("x", api.MaxWord+1), strings.Repeat("x", 1<<20)} {
			if kind, ok := grammar.Find(g, name); kind != 0 || ok {
				t.Errorf("%s: Find %q: %d, %v; want none", what, name, kind, ok)
			}
		}
	}
}

// P5.1, P5.2: of a grammar that may not be.
func TestOfWrongGrammars(t *testing.T) {
	for what, g := range wrong() {
		for _, name := range []string{"", "leaf", "book", "title", "part", "note", "k0", "k1", "nobody"} {
			if kind, ok := grammar.Find(g, name); kind != 0 || ok {
				t.Errorf("%s: Find %q: %d, %v", what, name, kind, ok)
			}
		}
		for _, kind := range []int{-1, 0, 1, 2, 3, 4, 5, 32, math.MinInt, math.MaxInt} {
			for _, kids := range [][]int{nil, {}, {0}, {2}, {2, 0, 0}} {
				if grammar.Fits(g, kind, kids) {
					t.Errorf("%s: Fits %d %v", what, kind, kids)
				}
			}
			if grammar.Text(g, kind, "") || grammar.Text(g, kind, "x") {
				t.Errorf("%s: Text %d", what, kind)
			}
			if n := grammar.Least(g, kind); n != 0 {
				t.Errorf("%s: Least %d: %d", what, kind, n)
			}
		}
	}
}

// P5.2: of a kind that there is not.
func TestOfNoKind(t *testing.T) {
	for what, g := range right() {
		count := len(g.Kinds)
		for _, kind := range []int{-1, -count, math.MinInt, count, count + 1, 256, 1 << 32, math.MaxInt} {
			for _, kids := range [][]int{nil, {}, {0}, {kind}} {
				if grammar.Fits(g, kind, kids) {
					t.Errorf("%s: Fits %d %v", what, kind, kids)
				}
			}
			if grammar.Text(g, kind, "") || grammar.Text(g, kind, "x") {
				t.Errorf("%s: Text %d", what, kind)
			}
			if n := grammar.Least(g, kind); n != 0 {
				t.Errorf("%s: Least %d: %d", what, kind, n)
			}
		}
	}
}

// P5.2: Text, of kinds that may have one and that may not, and at the bound.
func TestText(t *testing.T) {
	long := strings.Repeat("x", api.MaxWord)
	g := rich()
	for kind, may := range []bool{false, false, true, true, false} {
		for _, s := range []string{"x", "\x00", " ", "\xff", "\"\\", long[:api.MaxWord-1], long, strings.Repeat("é", api.MaxWord/2)} {
			if ok := grammar.Text(g, kind, s); ok != may {
				t.Errorf("Text %d %q: %v", kind, s, ok)
			}
		}
		for _, s := range []string{long + "x", strings.Repeat("é", api.MaxWord/2) + "x", strings.Repeat("x", 1<<20)} {
			if grammar.Text(g, kind, s) {
				t.Errorf("Text %d: true of %d bytes", kind, len(s))
			}
		}
		if !grammar.Text(g, kind, "") {
			t.Errorf("Text %d: false of none", kind)
		}
	}
}

// P5.2: Least is what all slots need.
func TestLeast(t *testing.T) {
	g := rich()
	for kind, want := range []int{0, 3, 0, 0, 0} {
		if n := grammar.Least(g, kind); n != want {
			t.Errorf("Least %d: %d; want %d", kind, n, want)
		}
	}
	for want, g := range map[int]api.Grammar{
		1:                  one(slot(0, 2, 1), slot(1, 1, 2)),
		9:                  one(slot(2, 2, 1), slot(0, 0, 1), slot(3, 1000, 1, 2), slot(4, 5, 2)),
		api.MaxMany:        one(slot(api.MaxMany, api.MaxMany, 1)),
		8 * api.MaxMany:    one(slices.Repeat([]api.Slot{slot(api.MaxMany, api.MaxMany, 1)}, api.MaxSlots)...),
		api.MaxNodes + 100: one(slot(api.MaxNodes, api.MaxMany, 1), slot(100, 100, 1)),
	} {
		if n := grammar.Least(g, 0); n != want {
			t.Errorf("Least: %d; want %d", n, want)
		}
		if n := grammar.Least(g, 1); n != 0 {
			t.Errorf("Least of a kind without slots: %d", n)
		}
	}
}

// changes are ways in which grammars differ, from the grammar rich on.
func changes() map[string]func(g *api.Grammar) {
	return map[string]func(g *api.Grammar){
		"Root":                func(g *api.Grammar) { g.Root = 0 },
		"Root below 0":        func(g *api.Grammar) { g.Root = -1 },
		"no kinds":            func(g *api.Grammar) { g.Kinds = nil },
		"a kind less":         func(g *api.Grammar) { g.Kinds = g.Kinds[:4] },
		"a kind more":         func(g *api.Grammar) { g.Kinds = append(g.Kinds, api.Kind{Name: "more"}) },
		"an empty kind more":  func(g *api.Grammar) { g.Kinds = append(g.Kinds, api.Kind{}) },
		"kinds changed about": func(g *api.Grammar) { g.Kinds[0], g.Kinds[2] = g.Kinds[2], g.Kinds[0] },
		"the first name":      func(g *api.Grammar) { g.Kinds[0].Name = "Leaf" },
		"the last name":       func(g *api.Grammar) { g.Kinds[4].Name = "" },
		"a text more":         func(g *api.Grammar) { g.Kinds[0].Text = true },
		"a text less":         func(g *api.Grammar) { g.Kinds[3].Text = false },
		"no slots":            func(g *api.Grammar) { g.Kinds[1].Slots = nil },
		"a slot less":         func(g *api.Grammar) { g.Kinds[1].Slots = g.Kinds[1].Slots[:2] },
		"a slot more":         func(g *api.Grammar) { g.Kinds[0].Slots = []api.Slot{{}} },
		"slots changed about": func(g *api.Grammar) { slices.Reverse(g.Kinds[4].Slots) },
		"Least":               func(g *api.Grammar) { g.Kinds[1].Slots[2].Least = 1 },
		"Most":                func(g *api.Grammar) { g.Kinds[1].Slots[2].Most = 6 },
		"no kinds of a slot":  func(g *api.Grammar) { g.Kinds[4].Slots[0].Kinds = nil },
		"a slot's kind less":  func(g *api.Grammar) { g.Kinds[3].Slots[0].Kinds = []int{0, 3} },
		"a slot's kind more":  func(g *api.Grammar) { g.Kinds[4].Slots[0].Kinds = []int{0, 1} },
		"another kind":        func(g *api.Grammar) { g.Kinds[4].Slots[1].Kinds = []int{3} },
		"kinds that fall":     func(g *api.Grammar) { slices.Reverse(g.Kinds[3].Slots[0].Kinds) },
	}
}

// P5.1: Same, of grammars that differ in one thing, whether they may be or not.
func TestSame(t *testing.T) {
	l := []api.Grammar{rich(), big()}
	for _, change := range changes() {
		l = append(l, with(change))
	}
	for i, a := range l {
		for k, b := range l {
			if same := grammar.Same(a, copied(b)); same != (i == k) {
				t.Errorf("Same of %v and %v: %v", a, b, same)
			}
		}
	}
	for _, set := range []map[string]api.Grammar{right(), wrong()} {
		for what, g := range set {
			if !grammar.Same(g, copied(g)) || !grammar.Same(copied(g), g) || !grammar.Same(g, g) {
				t.Errorf("%s: not the same", what)
			}
		}
	}
}

// P5.1: lists of nothing and none alike, of each list.
func TestSameOfNone(t *testing.T) {
	none := api.Grammar{Kinds: []api.Kind{{Name: "x", Slots: []api.Slot{{Most: 1}}}, {Name: "y"}}}
	empty := api.Grammar{Kinds: []api.Kind{{Name: "x", Slots: []api.Slot{{Kinds: []int{}, Most: 1}}}, {Name: "y", Slots: []api.Slot{}}}}
	if !grammar.Same(none, empty) || !grammar.Same(empty, none) {
		t.Error("not the same:", none, empty)
	}
	none, empty = api.Grammar{Root: 3}, api.Grammar{Root: 3, Kinds: []api.Kind{}}
	if !grammar.Same(none, empty) || !grammar.Same(empty, none) {
		t.Error("not the same:", none, empty)
	}
	if !grammar.Same(api.Grammar{}, api.Grammar{}) || grammar.Same(api.Grammar{}, none) || grammar.Same(none, api.Grammar{}) {
		t.Error("zero grammars")
	}
}

// calls makes all calls of a grammar, and tells their answers.
func calls(g, other api.Grammar, kind int, kids []int, s string) string {
	found, ok := grammar.Find(g, s)
	return fmt.Sprint(grammar.Check(g), found, ok, grammar.Fits(g, kind, kids), grammar.Text(g, kind, s), grammar.Least(g, kind), grammar.Same(g, other), grammar.Same(other, g))
}

// filled gives l with spare room behind it that is not zero.
func filled[T any](l []T, spare T) []T {
	room := append(slices.Clone(l), spare, spare)
	return room[:len(l)]
}

// whole gives l with the two of its spare room.
func whole[T any](l []T) []T {
	return l[:len(l)+2]
}

// roomy gives g with spare room behind each list.
func roomy(g api.Grammar) api.Grammar {
	g = copied(g)
	for i := range g.Kinds {
		for j := range g.Kinds[i].Slots {
			s := &g.Kinds[i].Slots[j]
			s.Kinds = filled(s.Kinds, 77)
		}
		g.Kinds[i].Slots = filled(g.Kinds[i].Slots, slot(7, 8, 9))
	}
	g.Kinds = filled(g.Kinds, api.Kind{Name: "leaf", Slots: []api.Slot{slot(7, 8, 9)}})
	return g
}

// rooms gives a roomy grammar with its spare room.
func rooms(g api.Grammar) api.Grammar {
	count := len(g.Kinds)
	g.Kinds = slices.Clone(whole(g.Kinds))
	for i := range count {
		slots := len(g.Kinds[i].Slots)
		g.Kinds[i].Slots = slices.Clone(whole(g.Kinds[i].Slots))
		for j := range slots {
			s := &g.Kinds[i].Slots[j]
			s.Kinds = slices.Clone(whole(s.Kinds))
		}
	}
	return g
}

// R4: what is handed in is as it was, and what is behind it tells nothing. R3: the same calls answer the same, whatever came between.
func TestChangesNothing(t *testing.T) {
	bare := right()
	for what, g := range wrong() {
		bare[what] = g
	}
	row := []int{2, 3, 0, 3}
	for what, g := range bare {
		if len(g.Kinds) > api.MaxKinds+1 {
			continue
		}
		full, kids := roomy(g), filled(row, 0)
		before := copied(rooms(full))
		for kind := range 6 {
			want := calls(g, g, kind, row, "leaf")
			calls(rich(), big(), kind, nil, "note")
			if got := calls(full, full, kind, kids, "leaf"); got != want {
				t.Errorf("%s: %s; want %s", what, got, want)
			}
		}
		if after := rooms(full); !reflect.DeepEqual(after, before) {
			t.Errorf("%s: %v became %v", what, before, after)
		}
		if !slices.Equal(whole(kids), []int{2, 3, 0, 3, 0, 0}) {
			t.Errorf("%s: the row became %v", what, whole(kids))
		}
	}
}

// R3, R4: a grammar that is changed behind a call is another one to the next call.
func TestKeepsNothing(t *testing.T) {
	g, kids := rich(), []int{2, 0, 0}
	if !grammar.Fits(g, 1, kids) {
		t.Fatal("Fits of", kids)
	}
	kids[0] = 4
	if grammar.Fits(g, 1, kids) {
		t.Error("Fits of the row as it was")
	}
	g.Kinds[1].Slots[0].Kinds[0] = 4
	if !grammar.Fits(g, 1, kids) {
		t.Error("Fits by the slot as it was")
	}
	g.Kinds[4].Name = "new"
	if kind, ok := grammar.Find(g, "new"); kind != 4 || !ok {
		t.Error("Find by the names as they were")
	}
	g.Kinds[3].Name = "new"
	if grammar.Check(g) != api.ErrGrammar || grammar.Fits(g, 1, kids) || grammar.Least(g, 1) != 0 || grammar.Text(g, 2, "") {
		t.Error("the grammar as it was")
	}
}

// R1: any arguments end without a panic.
func TestAnyArguments(t *testing.T) {
	r := rand.New(rand.NewSource(1))
	edges := []int{0, 1, 2, 3, -1, 4, 31, 32, 33, api.MaxMany, api.MaxMany + 1, math.MinInt, math.MaxInt}
	anyInts := func() (l []int) {
		for range r.Intn(4) {
			l = append(l, edges[r.Intn(len(edges))])
		}
		return l
	}
	mayBe := 0
	for range 20000 {
		g := api.Grammar{Root: edges[r.Intn(3)]}
		for range r.Intn(5) {
			k := api.Kind{Name: strings.Repeat("x", r.Intn(12)), Text: r.Intn(2) == 0}
			for range r.Intn(3) {
				k.Slots = append(k.Slots, api.Slot{Kinds: anyInts(), Least: edges[r.Intn(len(edges))], Most: edges[r.Intn(len(edges))]})
			}
			g.Kinds = append(g.Kinds, k)
		}
		calls(g, g, edges[r.Intn(len(edges))], anyInts(), "x")
		if grammar.Check(g) == api.OK != plainlyRight(g) {
			t.Fatalf("Check(%v): %v", g, grammar.Check(g))
		}
		if plainlyRight(g) {
			mayBe++
		}
	}
	if mayBe < 500 || mayBe > 19500 {
		t.Errorf("%d of 20000 may be: that tells little", mayBe)
	}
}

// plainlyRight tells by the chapter's words whether g may be.
func plainlyRight(g api.Grammar) bool {
	ok := len(g.Kinds) >= 1 && len(g.Kinds) <= api.MaxKinds && g.Root >= 0 && g.Root < len(g.Kinds)
	for i, k := range g.Kinds {
		ok = ok && len(k.Name) >= 1 && len(k.Name) <= api.MaxWord && len(k.Slots) <= api.MaxSlots
		for _, other := range g.Kinds[:i] {
			ok = ok && other.Name != k.Name
		}
		for _, s := range k.Slots {
			ok = ok && len(s.Kinds) >= 1 && len(s.Kinds) <= api.MaxKinds && s.Least >= 0 && s.Least <= s.Most && s.Most <= api.MaxMany
			for i, kind := range s.Kinds {
				ok = ok && kind >= 0 && kind < len(g.Kinds) && (i == 0 || s.Kinds[i-1] < kind)
			}
		}
	}
	return ok
}
