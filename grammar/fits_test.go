package grammar_test

import (
	"math"
	"math/rand"
	"slices"
	"testing"
	"time"

	"allotment/api"
	"allotment/grammar"
)

// plainlyFits tells by the chapter's words whether kids can be cut into one stretch a slot.
func plainlyFits(slots []api.Slot, kids []int) bool {
	if len(slots) == 0 {
		return len(kids) == 0
	}
	s := slots[0]
	for length := 0; length <= min(s.Most, len(kids)); length++ {
		if length > 0 && !slices.Contains(s.Kinds, kids[length-1]) {
			return false
		}
		if length >= s.Least && plainlyFits(slots[1:], kids[length:]) {
			return true
		}
	}
	return false
}

// rowsOf gives all rows of up to that many kinds from 0 to kinds - 1.
func rowsOf(kinds, most int) [][]int {
	l := [][]int{nil}
	for from := 0; most > 0; most-- {
		to := len(l)
		for _, row := range l[from:to] {
			for kind := range kinds {
				l = append(l, append(slices.Clone(row), kind))
			}
		}
		from = to
	}
	return l
}

// many gives n kids of that kind.
func many(n, kind int) []int {
	return slices.Repeat([]int{kind}, n)
}

// P5.2: the chapter's examples, and rows by hand.
func TestFits(t *testing.T) {
	const a, b = 1, 2
	twoA, oneB, oneA := slot(0, 2, a), slot(1, 1, b), slot(1, 1, a)
	for _, c := range []struct {
		what  string
		slots []api.Slot
		kids  []int
		want  bool
	}{
		{"the chapter's first", []api.Slot{twoA, oneB}, []int{a, a, b}, true},
		{"the chapter's second", []api.Slot{twoA, oneB}, []int{a, b, a}, false},
		{"the chapter's third: the first slot takes one, though it may two", []api.Slot{twoA, oneA}, []int{a, a}, true},
		{"three, two and one", []api.Slot{twoA, oneA}, []int{a, a, a}, true},
		{"the first slot empty", []api.Slot{twoA, oneA}, []int{a}, true},
		{"one slot lacks", []api.Slot{twoA, oneB}, []int{a, a}, false},
		{"one too many", []api.Slot{twoA, oneB}, []int{a, a, a, b}, false},
		{"another order", []api.Slot{twoA, oneB}, []int{b, a}, false},
		{"behind the last stretch", []api.Slot{twoA, oneB}, []int{b, b}, false},
		{"the root's kind", []api.Slot{twoA, oneB}, []int{0}, false},
		{"the empty row, none needed", []api.Slot{twoA, twoA}, nil, true},
		{"the empty row, one needed", []api.Slot{twoA, oneB}, nil, false},
		{"the empty row, the first one needed", []api.Slot{oneB, twoA}, nil, false},
		{"the empty row, no slots", nil, nil, true},
		{"one kid, no slots", nil, []int{a}, false},
		{"a slot that has to be empty, left so", []api.Slot{slot(0, 0, a)}, nil, true},
		{"a slot that has to be empty, with one", []api.Slot{slot(0, 0, a)}, []int{a}, false},
		{"an empty slot between", []api.Slot{oneA, slot(0, 0, a, b), oneB}, []int{a, b}, true},
		{"nothing between", []api.Slot{oneA, slot(0, 0, a, b), oneB}, []int{a, a, b}, false},
		{"as many as may be goes wrong twice", []api.Slot{twoA, twoA, slot(3, 3, a)}, many(3, a), true},
		{"as few as may be goes wrong", []api.Slot{twoA, slot(0, 1, a), oneB}, []int{a, a, a, b}, true},
		{"neither the most nor the least", []api.Slot{slot(0, 3, a, b), slot(2, 2, b), slot(0, 1, a)}, []int{a, b, b, b, a}, true},
		{"the middle one at its least", []api.Slot{slot(1, 3, a), slot(2, 4, a, b), slot(1, 1, b)}, []int{a, a, a, b}, true},
		{"the middle one below its least", []api.Slot{slot(1, 3, a), slot(3, 4, a, b), slot(1, 1, b)}, []int{a, a, b}, false},
		{"a slot of both kinds", []api.Slot{slot(2, 4, a, b)}, []int{b, a, b, a}, true},
		{"a kid of both slots", []api.Slot{slot(1, 2, a, b), slot(1, 2, b)}, []int{a, b, b}, true},
		{"pairs, in two ways", []api.Slot{slot(0, 2, a), slot(0, 2, a, b), slot(2, 2, b)}, []int{a, a, b, b}, true},
		{"a gap of lengths", []api.Slot{slot(2, 2, a), slot(2, 2, a)}, many(3, a), false},
		{"kids below 0", []api.Slot{slot(0, 9, 0, a, b)}, []int{a, -1}, false},
		{"kids of great numbers", []api.Slot{slot(0, 9, 0, a, b)}, []int{1 << 32, a}, false},
		{"a kid past the last kind", []api.Slot{slot(0, 9, 0, a, b)}, []int{a, 3, b}, false},
		{"the least number", []api.Slot{slot(0, 9, 0, a, b)}, []int{math.MinInt}, false},
		{"the greatest number", []api.Slot{slot(0, 9, 0, a, b)}, []int{math.MaxInt}, false},
	} {
		if ok := grammar.Fits(one(c.slots...), 0, c.kids); ok != c.want {
			t.Errorf("%s: %v", c.what, ok)
		}
	}
	for kind := 1; kind <= 2; kind++ {
		if g := one(twoA); !grammar.Fits(g, kind, nil) || !grammar.Fits(g, kind, []int{}) || grammar.Fits(g, kind, []int{a}) {
			t.Errorf("the kind %d, which has no slots", kind)
		}
	}
	if !grammar.Fits(one(twoA, twoA), 0, []int{}) || grammar.Fits(one(oneA), 0, []int{}) {
		t.Error("the empty row that is not nil")
	}
}

// P5.2: the kind's own slots count, not another one's.
func TestFitsOfEachKind(t *testing.T) {
	g := rich()
	for _, row := range rowsOf(5, 5) {
		for kind, k := range g.Kinds {
			if ok := grammar.Fits(g, kind, row); ok != plainlyFits(k.Slots, row) {
				t.Errorf("Fits %d %v: %v", kind, row, ok)
			}
		}
	}
}

// P5.2: all slots of small bounds, two and three in order, on all short rows.
func TestFitsOfAllSmall(t *testing.T) {
	var l []api.Slot
	for _, kinds := range [][]int{{1}, {2}, {1, 2}} {
		for most := range 4 {
			for least := range most + 1 {
				l = append(l, slot(least, most, kinds...))
			}
		}
	}
	rows := rowsOf(3, 5)
	check := func(rows [][]int, slots ...api.Slot) {
		g := one(slots...)
		for _, row := range rows {
			if ok := grammar.Fits(g, 0, row); ok != plainlyFits(slots, row) {
				t.Fatalf("Fits of %v, %v: %v", slots, row, ok)
			}
		}
	}
	for _, x := range l {
		check(rows, x)
		for _, y := range l {
			check(rows, x, y)
		}
	}
	r := rand.New(rand.NewSource(2))
	for range 2000 {
		check(rows, l[r.Intn(len(l))], l[r.Intn(len(l))], l[r.Intn(len(l))])
	}
}

// P5.2: rows at a slot's Least and Most, and one past them.
func TestFitsAtBounds(t *testing.T) {
	for _, bounds := range [][2]int{{0, 0}, {0, 1}, {1, 1}, {3, 7}, {64, 65}, {198, 199}, {199, 200}, {200, 200}, {200, 201}, {201, 201}, {0, 200}, {0, api.MaxMany}, {api.MaxMany, api.MaxMany}} {
		g := one(slot(bounds[0], bounds[1], 1))
		for n := range api.MaxNodes + 3 {
			want := n >= bounds[0] && n <= bounds[1] && n <= api.MaxNodes
			if ok := grammar.Fits(g, 0, many(n, 1)); ok != want {
				t.Errorf("%d of %v: %v", n, bounds, ok)
			}
		}
	}
}

// P5.2: rows of MaxNodes kinds fit, longer ones don't, and none is too long to be asked.
func TestFitsOfLong(t *testing.T) {
	g := one(slices.Repeat([]api.Slot{slot(0, api.MaxMany, 1, 2)}, api.MaxSlots)...)
	for n, want := range map[int]bool{api.MaxNodes - 1: true, api.MaxNodes: true, api.MaxNodes + 1: false, api.MaxNodes + 2: false, api.MaxMany: false, 1 << 20: false} {
		if ok := grammar.Fits(g, 0, many(n, 2)); ok != want {
			t.Errorf("%d kids: %v", n, ok)
		}
	}
	for _, n := range []int{25, 26} {
		g := one(slices.Repeat([]api.Slot{slot(n, n, 1)}, api.MaxSlots)...)
		if ok := grammar.Fits(g, 0, many(n*api.MaxSlots, 1)); ok != (n == 25) {
			t.Errorf("%d kids: %v", n*api.MaxSlots, ok)
		}
	}
	at := many(api.MaxNodes, 1)
	for i := range at {
		at[i] = 2
		g := one(slot(i, i, 1), slot(1, 1, 2), slot(api.MaxNodes-1-i, api.MaxNodes-1-i, 1))
		if !grammar.Fits(g, 0, at) {
			t.Errorf("the kid %d in a stretch of its own: false", i)
		}
		if grammar.Fits(g, 0, at[:api.MaxNodes-1]) || grammar.Fits(g, 0, many(api.MaxNodes, 1)) {
			t.Errorf("the kid %d is not there: true", i)
		}
		at[i] = 1
	}
}

// R1: rows that can be cut in very many ways, but for their last kid, end soon: to try each way would take years.
func TestFitsEndsSoon(t *testing.T) {
	g := big()
	end := make(chan bool)
	go func() {
		for _, last := range []int{0, api.MaxKinds - 1, -1, api.MaxKinds} {
			kids := append(many(api.MaxNodes-1, 5), last)
			want := last >= 0 && last < api.MaxKinds
			for kind := range api.MaxKinds {
				if ok := grammar.Fits(g, kind, kids); ok != want {
					t.Errorf("the last one is %d: %v", last, ok)
				}
			}
		}
		close(end)
	}()
	select {
	case <-end:
	case <-time.After(time.Minute):
		t.Fatal("it goes on for a minute")
	}
}

// anySlots gives some slots of the kinds 0 to 2.
func anySlots(r *rand.Rand) []api.Slot {
	var l []api.Slot
	for range r.Intn(api.MaxSlots + 1) {
		s := api.Slot{Most: r.Intn(1 + r.Intn(12))}
		s.Least = r.Intn(1 + r.Intn(s.Most+1))
		for kind := range 3 {
			if r.Intn(2) == 0 {
				s.Kinds = append(s.Kinds, kind)
			}
		}
		if len(s.Kinds) == 0 {
			s.Kinds = []int{r.Intn(3)}
		}
		l = append(l, s)
	}
	return l
}

// anyRow gives a row that fits such slots, mostly changed in some places.
func anyRow(r *rand.Rand, slots []api.Slot) []int {
	var row []int
	for _, s := range slots {
		for range s.Least + r.Intn(s.Most-s.Least+1) {
			row = append(row, s.Kinds[r.Intn(len(s.Kinds))])
		}
	}
	for range r.Intn(4) {
		switch at := r.Intn(len(row) + 1); r.Intn(3) {
		case 0:
			row = slices.Insert(row, at, r.Intn(3))
		case 1:
			row = slices.Delete(row, min(at, len(row)), min(at+1, len(row)))
		default:
			if at < len(row) {
				row[at] = r.Intn(5) - 1
			}
		}
	}
	return row
}

// P5.2: any slots, on rows that fit and on ones that nearly do.
func TestFitsOfAny(t *testing.T) {
	r := rand.New(rand.NewSource(3))
	fit := 0
	for range 20000 {
		slots := anySlots(r)
		row := anyRow(r, slots)
		want := plainlyFits(slots, row)
		if want {
			fit++
		}
		if ok := grammar.Fits(one(slots...), 0, row); ok != want {
			t.Fatalf("Fits of %v, %v: %v", slots, row, ok)
		}
	}
	if fit < 2000 || fit > 18000 {
		t.Errorf("%d of 20000 fit: that tells little", fit)
	}
}

// P5.3: a row that fits has at least Least kinds.
func TestFitsHasLeast(t *testing.T) {
	r := rand.New(rand.NewSource(4))
	exact := 0
	for range 20000 {
		slots := anySlots(r)
		g, row := one(slots...), anyRow(r, slots)
		least := grammar.Least(g, 0)
		if !grammar.Fits(g, 0, row) {
			continue
		}
		if len(row) < least {
			t.Fatalf("%v of %v: %d at least", row, slots, least)
		}
		if len(row) == least {
			exact++
		}
	}
	if exact < 100 {
		t.Errorf("%d had just so many: that tells little", exact)
	}
}

// P5.3: Fits holds where it held, when some Most is raised, or a kind is put into a slot's kinds.
func TestFitsOfMore(t *testing.T) {
	r := rand.New(rand.NewSource(5))
	held, more := 0, 0
	for range 20000 {
		slots := anySlots(r)
		row := anyRow(r, slots)
		if len(slots) == 0 {
			continue
		}
		before := grammar.Fits(one(slots...), 0, row)
		s := &slots[r.Intn(len(slots))]
		if r.Intn(2) == 0 {
			s.Most += []int{1, 2, 5, api.MaxMany - s.Most}[r.Intn(4)]
		} else if kind := r.Intn(3); !slices.Contains(s.Kinds, kind) {
			s.Kinds = append(s.Kinds, kind)
			slices.Sort(s.Kinds)
		}
		if e := grammar.Check(one(slots...)); e != api.OK {
			t.Fatalf("Check of %v: %v", slots, e)
		}
		behind := grammar.Fits(one(slots...), 0, row)
		if before && !behind {
			t.Fatalf("%v fit no more: %v", row, slots)
		}
		if before {
			held++
		} else if behind {
			more++
		}
	}
	if held < 2000 || more < 200 {
		t.Errorf("%d held, %d were more: that tells little", held, more)
	}
}
