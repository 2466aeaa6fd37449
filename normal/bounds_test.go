package normal_test

import (
	"runtime/debug"
	"slices"
	"strconv"
	"testing"

	"allotment/api"
	"allotment/normal"
	"allotment/tree"
)

// line gives nodes one below the other, from that id on.
func line(id, depth int) api.Node {
	x := node(id + depth - 1)
	for at := id + depth - 2; at >= id; at-- {
		x = node(at, x)
	}
	return x
}

// fan gives so many nodes, all but the first one side by side, from that id on.
func fan(id, count int) api.Node {
	x := node(id)
	for at := range count - 1 {
		x.Kids = append(x.Kids, node(id+1+at))
	}
	return x
}

// P12.2: rows of just MaxSteps steps, of one fewer, and of more: each rule, all the way.
func TestLengths(t *testing.T) {
	for _, steps := range []int{api.MaxSteps - 1, api.MaxSteps, api.MaxSteps + 1, api.MaxSteps + 2, 5 * api.MaxSteps} {
		texts := make([]api.Step, steps)
		moves := make([]api.Step, steps)
		sub := make([]api.Step, steps)
		for at := range steps {
			texts[at] = write(2, strconv.Itoa(at))
			moves[at] = move(2, at, at)
			sub[at] = write(5, strconv.Itoa(at))
		}
		sub[0] = insert(1, 0, node(5))
		all(t, "texts", texts, steps, texts[steps-1:])
		all(t, "moves", moves, steps, moves[steps-1:])
		all(t, "an insert and texts", sub, steps, row(insert(1, 0, said(5, strconv.Itoa(steps-1)))))
		apart := slices.Clone(texts)
		for at := range apart {
			apart[at].Id = at % 2
		}
		all(t, "by turns", apart, 1, apart)
		var within, behind []api.Step
		for at := range steps / 2 {
			within = append(within, insert(at, 0, node(at+1)))
			behind = append(behind, insert(1, 0, node(at)), remove(at))
		}
		for at := steps/2 - 1; at >= 0; at-- {
			within = append(within, remove(at+1))
		}
		all(t, "one within the other", within, 1+len(within)/2, nil)
		all(t, "one behind the other", behind, 1+len(behind)/2, nil)
		all(t, "one within the other, and none", append(within, remove(9)), 1+len(within)/2, row(remove(9)))
	}
}

// all checks how many rows are on the way, and the normal form.
func all(t *testing.T, what string, l []api.Step, rows int, want []api.Step) {
	t.Helper()
	if form := normal.Of(l); !allAlike(form, want) {
		t.Errorf("%s, %d steps: %s; want %s", what, len(l), shown(form), shown(want))
	}
	count, last := 0, []api.Step(nil)
	for told := range normal.Steps(l) {
		if count == 0 && !allAlike(told, l) {
			t.Errorf("%s, %d steps: the first row is another one", what, len(l))
		}
		if count > 0 && len(told) >= len(last) {
			t.Errorf("%s, %d steps: row %d has %d, the one ahead %d", what, len(l), count, len(told), len(last))
		}
		count, last = count+1, told
	}
	if count != rows || !allAlike(last, want) {
		t.Errorf("%s, %d steps: %d rows, up to %s; want %d", what, len(l), count, shown(last), rows)
	}
	if normal.Is(l) != (rows == 1) {
		t.Errorf("%s, %d steps: Is %t", what, len(l), rows > 1)
	}
}

// R1: rows that are no change sets by far: their time doesn't grow with their length squared; Steps is left at its first rows.
func TestVeryLong(t *testing.T) {
	const steps = 200_000
	texts := slices.Repeat(row(write(2, "a"), write(2, "b")), steps/2)
	turns := slices.Repeat(row(write(2, "a"), write(3, "b")), steps/2)
	var within []api.Step
	for at := range steps / 2 {
		within = append(within, insert(1, 0, node(at)))
	}
	for at := range steps / 2 {
		within = append(within, remove(steps/2-1-at))
	}
	sub, texted := fan(1-steps, steps+2), fan(1-steps, steps+2)
	texted.Kids[steps].Text = "b" // the last one's, 2
	for what, c := range map[string]struct {
		l, want []api.Step
		second  int // how many steps the second row has, or the first, if there is none
	}{
		"texts":                {texts, row(write(2, "b")), steps - 1},
		"by turns":             {turns, turns, steps},
		"one within the other": {within, nil, steps - 2},
		"many texts of a Sub":  {append(row(insert(1, 0, sub)), texts...), row(insert(1, 0, texted)), steps},
	} {
		if form := normal.Of(c.l); !allAlike(form, c.want) {
			t.Errorf("%s: %d steps; want %d", what, len(form), len(c.want))
		}
		if normal.Is(c.l) != (what == "by turns") {
			t.Errorf("%s: Is", what)
		}
		if told := taken(normal.Steps(c.l), 1); len(told) != c.second {
			t.Errorf("%s: the second row has %d steps; want %d", what, len(told), c.second)
		}
	}
}

// P12.1, P12.2, R1: Subs that are as deep as they are big, or broad, on a stack that doesn't bear as many calls.
func TestGreatSubs(t *testing.T) {
	defer debug.SetMaxStack(debug.SetMaxStack(1 << 20))
	const most = 100_000
	for what, sub := range map[string]api.Node{"one below the other": line(1, most), "side by side": fan(1, most)} {
		for _, id := range []int{1, 2, api.MaxNodes + 1, 10*api.MaxNodes + 1, most / 2, most} {
			l, ok := normal.Pair(insert(0, 0, sub), write(id, "x"))
			if !ok || len(l) != 1 || l[0].Op != api.StInsert {
				t.Fatalf("%s, %d: %d steps, %t", what, id, len(l), ok)
			}
			isTexted(t, what, l[0].Sub, id, most)
			if l = normal.Of(row(insert(0, 0, sub), write(id, "x"), remove(most+1))); len(l) != 2 {
				t.Fatalf("%s, %d: %d steps", what, id, len(l))
			}
			isTexted(t, what, l[0].Sub, id, most)
		}
		for _, id := range []int{0, -1, most + 1} {
			if l, ok := normal.Pair(insert(0, 0, sub), write(id, "x")); ok || len(l) > 0 || !normal.Is(row(insert(0, 0, sub), write(id, "x"))) {
				t.Errorf("%s: %d is not there: %d steps", what, id, len(l))
			}
		}
		if l := normal.Of(row(insert(0, 0, sub), write(most, "x"), remove(1))); len(l) > 0 {
			t.Errorf("%s: %d steps", what, len(l))
		}
		s := api.Step{Op: api.StText, Id: 2, Sub: sub}
		if l := normal.Of(row(s, s)); !allAlike(l, row(s)) {
			t.Errorf("%s: a Sub that counts for nothing: %d steps", what, len(l))
		}
		if rows := ways(row(insert(0, 0, sub), write(most, "x"), write(most, "y"))); len(rows) != 3 || len(rows[2]) != 1 {
			t.Errorf("%s: %d rows", what, len(rows))
		}
	}
}

// isTexted checks that of the nodes 1 and so on of x the one of that id alone has a text.
func isTexted(t *testing.T, what string, x api.Node, id, nodes int) {
	t.Helper()
	n, ok := tree.Find(x, id)
	if !ok || n.Text != "x" || tree.Count(x) != nodes {
		t.Errorf("%s: %d has the text %q", what, id, n.Text)
	}
	count := 0
	for waiting := [][]api.Node{{x}}; len(waiting) > 0; {
		last := waiting[len(waiting)-1]
		waiting = waiting[:len(waiting)-1]
		for _, n := range last {
			if n.Text != "" {
				count++
			}
			waiting = append(waiting, n.Kids)
		}
	}
	if count != 1 {
		t.Errorf("%s, %d: %d nodes have a text", what, id, count)
	}
}
