package step

import "allotment/api"

// ids gives the ids of t's first nodes in the walk, at most so many. It goes no further, so its time and stack are bound, however great or deep t is.
func ids(t api.Node, upTo int) []int {
	var l []int
	var down func(n *api.Node)
	down = func(n *api.Node) {
		l = append(l, n.Id)
		for i := 0; i < len(n.Kids) && len(l) < upTo; i++ {
			down(&n.Kids[i])
		}
	}
	down(&t)
	return l
}

// tooGreat tells whether t has more nodes than may be.
func tooGreat(t api.Node) bool {
	return len(ids(t, most+1)) > most
}

// fresh tells whether sub's ids may come into t, and why not: one that may not be goes ahead of one that is there already.
func fresh(t, sub api.Node) api.Errno {
	there := map[int]struct{}{}
	for _, id := range ids(t, most) {
		there[id] = struct{}{}
	}
	e := api.OK
	for _, id := range ids(sub, most) {
		if id < 1 || id > api.MaxNumber {
			return api.ErrArg
		}
		if _, twice := there[id]; twice {
			e = api.ErrTwice
		}
		there[id] = struct{}{}
	}
	return e
}
