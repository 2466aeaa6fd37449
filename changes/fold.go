package changes

import (
	"iter"

	"allotment/api"
	"allotment/step"
	"allotment/undo"
)

// joined goes over the steps of rows, one row behind the other. It is read alone: the steps are the rows' own.
func joined(rows ...[]api.Step) iter.Seq[api.Step] {
	return func(yield func(api.Step) bool) {
		for _, l := range rows {
			for _, s := range l {
				if !yield(s) {
					return
				}
			}
		}
	}
}

// fold does a row's things, each on what those ahead of it came to. It tells what those came to that go ahead of the first one that fails, how many they are, and why that one fails.
func fold[A, S any](ahead A, row iter.Seq[S], do func(A, S) (A, api.Errno)) (behind A, went int, e api.Errno) {
	behind = ahead
folding:
	for s := range row {
		next, why := do(behind, s)
		switch why {
		case api.OK:
			behind = next
			went++
		default:
			e = why
			break folding
		}
	}
	return behind, went, e
}

// room is how many steps and inserted nodes a change set may have still.
type room struct {
	steps, nodes int
}

// check tells whether a row is a change set. It goes no further than the first step that has no room, so its time is bound, however long the row is.
func check(row iter.Seq[api.Step]) api.Errno {
	_, _, e := fold(room{api.MaxSteps, api.MaxNodes}, row, func(left room, s api.Step) (room, api.Errno) {
		left.steps--
		left.nodes -= inserted(s)
		if left.steps < 0 || left.nodes < 0 {
			return room{}, api.ErrLong
		}
		return left, api.OK
	})
	return e
}

// inserted tells how many nodes s inserts. Of very many step.Ids names the first ones alone, but those are more than may be.
func inserted(s api.Step) int {
	if s.Op != api.StInsert {
		return 0
	}
	return len(step.Ids(s)) - 1 // Parent is named, too
}

// inverses gives the inverse of each step of l, on the tree ahead of it, or why the first step that does not go does not.
func inverses(t api.Node, l []api.Step) ([]api.Step, api.Errno) {
	var backs []api.Step
	_, _, e := fold(t, joined(l), func(x api.Node, s api.Step) (api.Node, api.Errno) {
		back, e := undo.Invert(x, s)
		if e != api.OK {
			return api.Node{}, e
		}
		backs = append(backs, back)
		return step.Apply(x, s)
	})
	return backs, e
}
