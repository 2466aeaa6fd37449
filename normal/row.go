package normal

import (
	"iter"

	"allotment/api"
)

// row is a row under work. No neighbours of those that were gone over fit a rule, so the leftmost pair that fits is the last one of them and the first one that is left, or further on.
type row struct {
	gone []*held
	rest []*held
}

// rows goes over the rows on the way to the normal form of l, l first. It is one row that gets shorter: each one holds till the next.
func rows(l []api.Step) iter.Seq[*row] {
	return func(yield func(*row) bool) {
		r := &row{rest: hold(l)}
		for more := true; more && yield(r); more = r.shorten() {
		}
	}
}

// shorten puts the leftmost pair that fits a rule as it says, if there is one. What stays of the two is to be gone over again, as its neighbour is another one now.
func (r *row) shorten() bool {
	for ; len(r.rest) > 0; r.rest = r.rest[1:] {
		if last := len(r.gone) - 1; last >= 0 {
			if stays, ok := put(r.gone[last], r.rest[0]); ok {
				r.gone = r.gone[:last]
				if r.rest[0] = stays; stays == nil {
					r.rest = r.rest[1:]
				}
				return true
			}
		}
		r.gone = append(r.gone, r.rest[0])
	}
	return false
}

// told gives the row's steps as they came to be, in new memory.
func (r *row) told() []api.Step {
	var l []api.Step
	gone := len(r.gone)
	for _, h := range append(r.gone[:gone:gone], r.rest...) { // the room behind the first ones is the row's own
		l = append(l, h.told())
	}
	return l
}
