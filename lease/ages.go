package lease

import "allotment/api"

// Ages counts ticks: of each lease how many went by since it came.
type Ages struct {
	term  int
	ticks pairs[int, int] // by the lease's id; only of those that the last tick had
}

// NewAges gives ages without leases, which are over at that term (P16.3).
func NewAges(term int) (*Ages, api.Errno) {
	if term < 1 || term > api.MaxNumber {
		return nil, api.ErrArg
	}
	return &Ages{term: term}, api.OK
}

// Tick makes the leases of l one tick older, forgets all others, and tells which ones are over (P16.3).
func (a *Ages) Tick(l []api.Lease) []int {
	if a == nil {
		return nil
	}
	if a.ticks == nil { // made here, so that zero Ages tick, too
		a.ticks = pairs[int, int]{}
	}
	count := pairs[int, int]{} // how often each Id stands in l
	isFirst := func(x api.Lease) bool {
		count[x.Id]++
		return count[x.Id] == 1
	}
	var over []int
	for _, x := range those(l, isFirst) {
		a.ticks[x.Id]++
		if a.ticks[x.Id] >= a.term {
			over = append(over, x.Id)
		}
	}
	a.ticks.keep(func(id int) bool { return count[id] > 0 })
	return over
}

// Age tells how many ticks old the lease of that id is; 0, if it is not known (P16.3).
func (a *Ages) Age(id int) int {
	if a == nil {
		return 0
	}
	return a.ticks[id]
}
