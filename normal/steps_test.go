package normal_test

import (
	"slices"
	"testing"

	"allotment/api"
	"allotment/normal"
)

// ways gives the rows that Steps goes over.
func ways(l []api.Step) [][]api.Step {
	return slices.Collect(normal.Steps(l))
}

// sameRows tells whether two rows of rows are the same, in all fields.
func sameRows(a, b [][]api.Step) bool {
	return slices.EqualFunc(a, b, allAlike)
}

// goes checks all that is told of a row, by the rows on its way, from the row itself to its normal form.
func goes(t *testing.T, what string, rows ...[]api.Step) {
	t.Helper()
	l, last := rows[0], rows[len(rows)-1]
	if form := normal.Of(l); !allAlike(form, last) {
		t.Errorf("%s: Of %s; want %s", what, shown(form), shown(last))
	}
	if normal.Is(l) != (len(rows) == 1) || !normal.Is(last) {
		t.Errorf("%s: Is %t of it, %t of its normal form", what, normal.Is(l), normal.Is(last))
	}
	told := ways(l)
	if !sameRows(told, rows) {
		t.Errorf("%s: %d rows; want %d", what, len(told), len(rows))
		for at := range max(len(told), len(rows)) {
			if at < len(told) {
				t.Logf("%d: %s", at, shown(told[at]))
			}
			if at < len(rows) {
				t.Logf("%d: want %s", at, shown(rows[at]))
			}
		}
	}
}

// neutral gives steps that fit no rule with one another, nor with those of fitting and apart.
func neutral() []api.Step {
	return row(remove(91), move(92, 1, 0), write(93, "n"), insert(94, 0, node(95)), insert(94, 0, node(96)), api.Step{})
}

// P12.2: each rule, at the first pair, in the midst, and at the last.
func TestEachRule(t *testing.T) {
	for what, p := range fitting() {
		goes(t, what+", alone", row(p.a, p.b), p.want)
		for at := range len(neutral()) + 1 {
			goes(t, what, slices.Insert(neutral(), at, p.a, p.b), slices.Insert(neutral(), at, p.want...))
			goes(t, what+", with the beginning alone", append(neutral()[:at], p.a, p.b), append(neutral()[:at], p.want...))
		}
	}
}

// P12.2: pairs that just miss a rule stay as they are, wherever they stand.
func TestNoRule(t *testing.T) {
	for what, p := range apart() {
		goes(t, what+", alone", row(p.a, p.b))
		for at := range len(neutral()) + 1 {
			goes(t, what, slices.Insert(neutral(), at, p.a, p.b))
		}
	}
}

// P12.2: rows of none and of one.
func TestFew(t *testing.T) {
	goes(t, "none", nil)
	goes(t, "an empty row", []api.Step{})
	goes(t, "the beginning of a row", row(write(2, "a"), write(2, "b"))[:1])
	for _, op := range ops() {
		goes(t, "one", row(api.Step{Op: op, Id: 2, Parent: 3, Place: -4, Text: "x", Sub: bough()}))
		goes(t, "one, all but its Op 0", row(api.Step{Op: op}))
	}
}

// P12.2: of several pairs that fit the leftmost one goes first.
func TestLeftmost(t *testing.T) {
	a, b, c, d := write(2, "a"), write(2, "b"), write(2, "c"), write(2, "d")
	goes(t, "four texts", row(a, b, c, d), row(b, c, d), row(c, d), row(d))
	goes(t, "two pairs", row(a, b, remove(9), c, d), row(b, remove(9), c, d), row(b, remove(9), d))
	up, down, back := move(3, 2, 1), move(3, 1, 0), move(3, 2, 2)
	goes(t, "three moves", row(up, down, back), row(down, back), row(back))
	goes(t, "moves of two", row(up, down, move(4, 1, 0), move(4, 1, 1), back), row(down, move(4, 1, 0), move(4, 1, 1), back), row(down, move(4, 1, 1), back))
	five := func(text string) api.Step { return insert(1, 0, said(5, text)) }
	goes(t, "an insert and its texts", row(five(""), write(5, "a"), write(5, "b"), write(5, "c")), row(five("a"), write(5, "b"), write(5, "c")), row(five("b"), write(5, "c")), row(five("c")))
	goes(t, "the texts, then another one's", row(five(""), write(5, "a"), write(6, "b"), write(6, "c")), row(five("a"), write(6, "b"), write(6, "c")), row(five("a"), write(6, "c")))
	goes(t, "the chapter's", row(five(""), write(5, "a"), write(5, "b"), remove(5)), row(five("a"), write(5, "b"), remove(5)), row(five("b"), remove(5)), nil)
	goes(t, "one pair of each", row(a, b, up, down, five(""), write(5, "x"), five(""), remove(5)),
		row(b, up, down, five(""), write(5, "x"), five(""), remove(5)),
		row(b, down, five(""), write(5, "x"), five(""), remove(5)),
		row(b, down, five("x"), five(""), remove(5)),
		row(b, down, five("x")))
	goes(t, "one pair of each, the other way", row(five(""), remove(5), five(""), write(5, "x"), up, down, a, b),
		row(five(""), write(5, "x"), up, down, a, b),
		row(five("x"), up, down, a, b),
		row(five("x"), down, a, b),
		row(five("x"), down, b))
}

// P12.2: what a rule makes has new neighbours, which may fit.
func TestNewNeighbours(t *testing.T) {
	in := func(id int, kids ...api.Node) api.Step { return insert(1, 0, node(id, kids...)) }
	goes(t, "two texts about what came and went", row(write(2, "a"), in(5), remove(5), write(2, "b")), row(write(2, "a"), write(2, "b")), row(write(2, "b")))
	goes(t, "two moves", row(move(2, 1, 0), in(5), remove(5), move(2, 3, 1)), row(move(2, 1, 0), move(2, 3, 1)), row(move(2, 3, 1)))
	goes(t, "an insert and its text", row(in(6), in(5), remove(5), write(6, "b")), row(in(6), write(6, "b")), row(insert(1, 0, said(6, "b"))))
	goes(t, "one within the other", row(in(5), in(6), in(7), remove(7), remove(6), remove(5)), row(in(5), in(6), remove(6), remove(5)), row(in(5), remove(5)), nil)
	goes(t, "one behind the other", row(in(5), remove(5), in(6), remove(6), in(7), remove(7)), row(in(6), remove(6), in(7), remove(7)), row(in(7), remove(7)), nil)
	goes(t, "not in each other's order", row(in(5), in(6), remove(5), remove(6)))
	goes(t, "what is left does not fit", row(write(2, "a"), in(5), remove(5), move(2, 1, 0)), row(write(2, "a"), move(2, 1, 0)))
	goes(t, "nothing ahead", row(in(5), remove(5), write(2, "b"), write(2, "c")), row(write(2, "b"), write(2, "c")), row(write(2, "c")))
	goes(t, "nothing behind", row(write(2, "a"), in(5), remove(5)), row(write(2, "a")))
	goes(t, "two that are as one", row(in(5), in(5), remove(5), remove(5)), row(in(5), remove(5)), nil)
	goes(t, "the id comes again, and is new", row(in(5), write(5, "a"), remove(5), in(5, node(6)), write(6, "b")),
		row(insert(1, 0, said(5, "a")), remove(5), in(5, node(6)), write(6, "b")),
		row(in(5, node(6)), write(6, "b")),
		row(in(5, said(6, "b"))))
	goes(t, "texts on both sides", row(in(5, node(6)), write(6, "a"), in(7), write(7, "b"), remove(7), write(5, "c"), write(6, "d")),
		row(in(5, said(6, "a")), in(7), write(7, "b"), remove(7), write(5, "c"), write(6, "d")),
		row(in(5, said(6, "a")), insert(1, 0, said(7, "b")), remove(7), write(5, "c"), write(6, "d")),
		row(in(5, said(6, "a")), write(5, "c"), write(6, "d")),
		row(insert(1, 0, said(5, "c", said(6, "a"))), write(6, "d")),
		row(insert(1, 0, said(5, "c", said(6, "d")))))
}

// P12.2: rows that fit nowhere, though nearly so.
func TestAsItIs(t *testing.T) {
	goes(t, "the chapter's", row(write(2, "a"), write(3, "b"), write(2, "c")))
	goes(t, "moved between", row(insert(1, 0, node(5)), move(5, 2, 0), remove(5)))
	goes(t, "moved, then texts", row(insert(1, 0, node(5)), move(5, 2, 0), write(5, "a")))
	goes(t, "texts by turns", row(write(2, "a"), write(3, "a"), write(2, "b"), write(3, "b")))
	goes(t, "moves by turns", row(move(2, 1, 0), move(3, 1, 0), move(2, 1, 0)))
	goes(t, "a kid goes", row(insert(1, 0, node(5, node(6))), remove(6), remove(5)))
	goes(t, "gone, and there again", row(remove(5), insert(1, 0, node(5)), move(5, 1, 0)))
	goes(t, "the parent's text", row(insert(5, 0, node(6)), write(5, "a")))
	goes(t, "a text ahead of what came", row(write(5, "a"), insert(1, 0, node(5))))
}

// P12.2: a node that stands in Sub more than once: the first one of the id has the last text.
func TestOfTwice(t *testing.T) {
	sub := func(text string) api.Step {
		return insert(1, 0, node(5, node(6, said(7, text)), said(7, "later", node(7))))
	}
	goes(t, "three of them", row(sub(""), write(7, "a"), write(7, "b")), row(sub("a"), write(7, "b")), row(sub("b")))
	twin := node(7, node(8))
	goes(t, "two that share memory", row(insert(1, 0, node(5, twin, twin)), write(8, "a")), row(insert(1, 0, node(5, node(7, said(8, "a")), node(7, node(8))))))
}

// P12.2: two steps that share memory are two.
func TestOfTwins(t *testing.T) {
	s := insert(1, 0, bough())
	other := insert(1, 0, said(5, "five", said(6, "six", said(7, "x")), said(8, "eight")))
	goes(t, "the first one", row(s, write(7, "x"), s), row(other, s))
	goes(t, "the last one", row(s, s, write(7, "x")), row(s, other))
	goes(t, "it comes, goes, and comes", row(s, write(7, "x"), remove(5), s), row(other, remove(5), s), row(s))
}

// P12.2: it may be left at any row, tells nothing more then, and may be gone over again.
func TestStepsLeft(t *testing.T) {
	l := row(write(2, "a"), insert(1, 0, bough()), write(7, "x"), write(5, "y"), remove(5), write(2, "b"), move(2, 1, 0), move(2, 1, 1))
	want := ways(l)
	if len(want) != 6 {
		t.Fatal(len(want))
	}
	steps := normal.Steps(l)
	for last := range want {
		at := 0
		steps(func(told []api.Step) bool {
			if at > last {
				t.Fatalf("goes on behind row %d, where it was left", last)
			}
			if !allAlike(told, want[at]) {
				t.Errorf("row %d: %s; want %s", at, shown(told), shown(want[at]))
			}
			at++
			return at <= last
		})
		if at != last+1 {
			t.Errorf("%d rows; want %d", at, last+1)
		}
	}
	for range 2 {
		if told := slices.Collect(steps); !sameRows(told, want) {
			t.Errorf("gone over again: %d rows; want %d", len(told), len(want))
		}
	}
	for range normal.Steps(nil) {
		break
	}
}

// P12.2: two goings at one time do not meet.
func TestStepsWithinSteps(t *testing.T) {
	l := row(insert(1, 0, bough()), write(7, "x"), write(7, "y"), write(2, "a"), write(2, "b"), insert(1, 0, node(9)), remove(9))
	steps, want := normal.Steps(l), ways(l)
	at := 0
	for told := range steps {
		if !allAlike(told, want[at]) {
			t.Errorf("row %d: %s; want %s", at, shown(told), shown(want[at]))
		}
		at++
		within := 0
		for told := range steps {
			if !allAlike(told, want[within]) {
				t.Errorf("row %d within %d: %s; want %s", within, at, shown(told), shown(want[within]))
			}
			if within++; within == at {
				break
			}
		}
	}
	if at != len(want) || at != 5 {
		t.Errorf("%d rows; want %d", at, len(want))
	}
}
