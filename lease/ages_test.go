package lease_test

import (
	"math"
	"math/rand"
	"slices"
	"testing"

	"allotment/api"
	"allotment/lease"
)

// newAges gives ages of a term that may be.
func newAges(t *testing.T, term int) *lease.Ages {
	t.Helper()
	a, e := lease.NewAges(term)
	if e != api.OK || a == nil {
		t.Fatalf("NewAges(%d): %v, %v", term, a, e)
	}
	return a
}

// ids gives leases of these ids.
func ids(l ...int) []api.Lease {
	var all []api.Lease
	for _, id := range l {
		all = append(all, on(id, 2))
	}
	return all
}

// ticks lets ages tick, and checks what is over.
func ticks(t *testing.T, what string, a *lease.Ages, l []api.Lease, want ...int) {
	t.Helper()
	if over := a.Tick(l); !slices.Equal(over, want) {
		t.Errorf("%s: %v are over; want %v", what, over, want)
	}
}

// agesAre checks what Age tells of these ids, and that no others of those asked are known.
func agesAre(t *testing.T, what string, a *lease.Ages, want map[int]int) {
	t.Helper()
	others := []int{-2, -1, 0, 1, 2, 3, 4, 5, 6, 7, 8, 9, 1<<32 + 1, math.MinInt, math.MaxInt}
	for id := range want {
		others = append(others, id)
	}
	for _, id := range others {
		if age := a.Age(id); age != want[id] {
			t.Errorf("%s: Age of %d: %d; want %d", what, id, age, want[id])
		}
	}
}

// P16.3: terms at their least and most, and one past each.
func TestNewAges(t *testing.T) {
	for _, term := range []int{1, 2, 3, 1000, 1 << 32, api.MaxNumber - 1, api.MaxNumber} {
		agesAre(t, "new ages", newAges(t, term), nil)
	}
	for _, term := range []int{0, -1, math.MinInt, api.MaxNumber + 1, math.MaxInt, -1 << 32} {
		if a, e := lease.NewAges(term); a != nil || e != api.ErrArg {
			t.Errorf("NewAges(%d): %v, %v", term, a, e)
		}
	}
}

// P16.3: leases that stay, go, and come again.
func TestTick(t *testing.T) {
	a := newAges(t, 3)
	ticks(t, "of no lease", a, nil)
	ticks(t, "1 comes", a, ids(1))
	agesAre(t, "1 came", a, map[int]int{1: 1})
	ticks(t, "2 comes", a, ids(1, 2))
	agesAre(t, "2 came", a, map[int]int{1: 2, 2: 1})
	ticks(t, "1 is over", a, ids(1, 2), 1)
	agesAre(t, "1 is over", a, map[int]int{1: 3, 2: 2})
	ticks(t, "1 goes", a, ids(2, 5), 2)
	agesAre(t, "1 went", a, map[int]int{2: 3, 5: 1})
	ticks(t, "1 comes again", a, ids(5, 1, 2), 2)
	agesAre(t, "1 came again", a, map[int]int{2: 4, 5: 2, 1: 1})
	ticks(t, "two are over, in the list's order", a, ids(5, 1, 2), 5, 2)
	ticks(t, "all are over, in the list's order", a, ids(2, 1, 5), 2, 1, 5)
	agesAre(t, "all are over", a, map[int]int{2: 6, 5: 4, 1: 3})
	ticks(t, "all go", a, ids())
	agesAre(t, "all went", a, nil)
	ticks(t, "all come again", a, ids(1, 2, 5))
	agesAre(t, "all came again", a, map[int]int{1: 1, 2: 1, 5: 1})
}

// P16.3: of a term of 1, and of the greatest one.
func TestTickTerms(t *testing.T) {
	a := newAges(t, 1)
	ticks(t, "of no lease", a, nil)
	ticks(t, "a term of 1", a, ids(3, 1), 3, 1)
	ticks(t, "a term of 1", a, ids(4, 3), 4, 3)
	agesAre(t, "a term of 1", a, map[int]int{3: 2, 4: 1})
	a = newAges(t, api.MaxNumber)
	for n := range 1000 {
		ticks(t, "the greatest term", a, ids(1))
		agesAre(t, "the greatest term", a, map[int]int{1: n + 1})
	}
}

// P16.3: two of the same Id in one tick are one, whatever else they are.
func TestTickTwice(t *testing.T) {
	a := newAges(t, 2)
	l := row(on(3, 2), on(1, 4), on(3, 7), of(3, 2), on(1, 4))
	ticks(t, "twins", a, l)
	agesAre(t, "twins", a, map[int]int{1: 1, 3: 1})
	ticks(t, "twins", a, l, 3, 1)
	agesAre(t, "twins", a, map[int]int{1: 2, 3: 2})
	ticks(t, "twins, others ahead", a, row(l[1], l[2], l[0]), 1, 3)
	ticks(t, "one of them goes", a, l[2:3], 3)
	agesAre(t, "one of them went", a, map[int]int{3: 4})
}

// P16.3: leases go by their Ids alone, whatever these are.
func TestTickIds(t *testing.T) {
	a := newAges(t, 2)
	all := []int{0, -1, math.MinInt, math.MaxInt, 1 << 32, 1<<32 + 1, 1}
	want := map[int]int{}
	for _, id := range all {
		want[id] = 1
	}
	ticks(t, "any ids", a, ids(all...))
	agesAre(t, "any ids", a, want)
	var others []api.Lease
	for _, id := range all {
		others = append(others, api.Lease{Id: id})
		want[id] = 2
	}
	ticks(t, "any ids, other leases", a, others, all...)
	agesAre(t, "any ids, other leases", a, want)
}

// P16.3: ages beside one another; asking changes nothing.
func TestAgesApart(t *testing.T) {
	a, b := newAges(t, 2), newAges(t, 2)
	ticks(t, "one", a, ids(1, 2))
	agesAre(t, "the other", b, nil)
	ticks(t, "the other", b, ids(2))
	ticks(t, "one", a, ids(1), 1)
	for range 2 {
		agesAre(t, "one", a, map[int]int{1: 2})
		agesAre(t, "the other", b, map[int]int{2: 1})
	}
	ticks(t, "the other", b, ids(2, 3), 2)
}

// P16.3, R1: of nil, and of what NewAges did not make.
func TestNilAges(t *testing.T) {
	var a *lease.Ages
	for range 3 {
		if over := a.Tick(ids(1, 2)); over != nil {
			t.Error(over)
		}
		agesAre(t, "nil", a, nil)
	}
	var zero lease.Ages
	agesAre(t, "zero", &zero, nil)
	zero.Tick(nil)
	zero.Tick(ids(1, 2, 1))
	agesAre(t, "zero", &zero, map[int]int{1: 1, 2: 1})
}

// P16.3: where none is over, nil is told.
func TestTickNil(t *testing.T) {
	a := newAges(t, 2)
	for _, l := range [][]api.Lease{nil, {}, ids(1), ids(2, 3), nil} {
		if over := a.Tick(l); over != nil {
			t.Error(over)
		}
	}
}

// P16.3: many ticks, as the chapter's words have it.
func TestTickAny(t *testing.T) {
	for seed := range int64(200) {
		r := rand.New(rand.NewSource(seed))
		term := 1 + r.Intn(5)
		a, age := newAges(t, term), map[int]int{}
		for range 60 {
			var l, over []int
			for range r.Intn(8) {
				l = append(l, r.Intn(8)-1)
			}
			now := map[int]int{}
			for _, id := range l {
				if now[id] == 0 {
					if now[id] = age[id] + 1; now[id] >= term {
						over = append(over, id)
					}
				}
			}
			age = now
			ticks(t, "some leases", a, ids(l...), over...)
			agesAre(t, "some leases", a, age)
		}
		if t.Failed() {
			t.Fatal("seed", seed)
		}
	}
}

// P16.5: a lease that stays is over at the term's tick since it came, and at each later one, whatever comes and goes beside it; one that went and came again begins anew.
func TestOver(t *testing.T) {
	r := rand.New(rand.NewSource(16))
	for term := 1; term <= 12; term++ {
		for _, before := range []int{0, 1, term, 2*term + 1} {
			a := newAges(t, term)
			for range before {
				a.Tick(ids(r.Perm(6)[:r.Intn(6)]...))
			}
			for range 2 {
				for n := 1; n <= 3*term; n++ {
					l := append(r.Perm(6)[:r.Intn(6)], 50)
					r.Shuffle(len(l), func(i, j int) { l[i], l[j] = l[j], l[i] })
					if over := a.Tick(ids(l...)); slices.Contains(over, 50) != (n >= term) {
						t.Errorf("term %d, tick %d: %v are over", term, n, over)
					}
					if a.Age(50) != n {
						t.Errorf("term %d, tick %d: age %d", term, n, a.Age(50))
					}
				}
				a.Tick(ids(r.Perm(6)...)) // it goes
			}
		}
	}
}
