package undo_test

import (
	"math"
	"slices"
	"strings"
	"testing"

	"allotment/api"
	"allotment/step"
	"allotment/tree"
	"allotment/undo"
)

// node gives a node of the kind 0 in memory of its own.
func node(id int, kids ...api.Node) api.Node {
	return api.Node{Id: id, Kids: slices.Clone(kids)}
}

func insert(parent, place int, sub api.Node) api.Step {
	return api.Step{Op: api.StInsert, Parent: parent, Place: place, Sub: sub}
}

func remove(id int) api.Step {
	return api.Step{Op: api.StDelete, Id: id}
}

func move(id, parent, place int) api.Step {
	return api.Step{Op: api.StMove, Id: id, Parent: parent, Place: place}
}

func write(id int, text string) api.Step {
	return api.Step{Op: api.StText, Id: id, Text: text}
}

// small is the tree of the chapter's examples.
func small() api.Node {
	return node(1, node(2), node(3, node(4)))
}

// row is a root with five kids, one of which has two; some have kinds and texts.
func row() api.Node {
	return api.Node{Id: 1, Text: "one", Kids: []api.Node{
		{Id: 2, Kind: 1, Text: "two"},
		{Id: 3},
		{Id: 4, Kind: 2, Text: "four", Kids: []api.Node{{Id: 7, Kind: 3, Text: "seven"}, {Id: 8}}},
		{Id: 5, Kind: -1},
		{Id: 6, Kind: 5, Text: "six"}}}
}

// twice has ids that are there more than once: 1, the root's, below itself; 2 one above the other; 3 side by side; 4 far apart, the deeper one ahead.
func twice() api.Node {
	return node(1,
		node(2, node(2, node(4), node(5)), node(6)),
		node(3, node(7)),
		node(3, node(8), node(1, node(9))),
		node(4, node(10)))
}

// alike tells whether two steps are the same in all fields, those that their Op does not name, too.
func alike(a, b api.Step) bool {
	return a.Op == b.Op && a.Id == b.Id && a.Parent == b.Parent && a.Place == b.Place && a.Text == b.Text && tree.Same(a.Sub, b.Sub)
}

// inverts checks the inverse of a step that goes, and, where it is to go back, that the two undo one another.
func inverts(t *testing.T, what string, x api.Node, s, want api.Step, goesBack bool) {
	t.Helper()
	back, e := undo.Invert(x, s)
	if e != api.OK || !alike(back, want) {
		t.Errorf("%s: %v, %v; want %v", what, back, e, want)
	}
	y, e := step.Apply(x, s)
	if e != api.OK {
		t.Errorf("%s: does not go: %v", what, e)
	}
	if goesBack {
		thereAndBack(t, what, x, y, back)
	}
}

// thereAndBack checks by P10.3 that back takes y to x, and its inverse x to y.
func thereAndBack(t *testing.T, what string, x, y api.Node, back api.Step) {
	t.Helper()
	if z, e := step.Apply(y, back); e != api.OK || !tree.Same(z, x) {
		t.Errorf("%s: %v came back to %s, %v; want %s", what, back, tree.Show(z), e, tree.Show(x))
	}
	again, e := undo.Invert(y, back)
	if e != api.OK {
		t.Errorf("%s: the inverse has no inverse: %v", what, e)
	}
	if z, e := step.Apply(x, again); e != api.OK || !tree.Same(z, y) {
		t.Errorf("%s: the inverse's inverse %v came to %s, %v; want %s", what, again, tree.Show(z), e, tree.Show(y))
	}
}

// fails checks that a step that does not go has no inverse, and why, and that it is not still.
func fails(t *testing.T, what string, x api.Node, s api.Step, want api.Errno) {
	t.Helper()
	back, e := undo.Invert(x, s)
	if e != want || !alike(back, api.Step{}) {
		t.Errorf("%s: %v, %v; want %v", what, back, e, want)
	}
	if undo.Still(x, s) {
		t.Errorf("%s: still, and does not go", what)
	}
}

// The chapter's examples.
func TestExamples(t *testing.T) {
	inverts(t, "Delete 3", small(), remove(3), insert(1, 1, node(3, node(4))), true)
	inverts(t, "Move 2 to 3 at 1", small(), move(2, 3, 1), move(2, 1, 0), true)
}

// P10.1, P10.3: the inverse of an insert is a delete of Sub's root, wherever it came.
func TestInvertInsert(t *testing.T) {
	sub := api.Node{Id: 20, Kind: 2, Text: "b", Kids: []api.Node{{Id: 11, Text: "c"}, {Id: 10, Kids: []api.Node{{Id: api.MaxNumber}}}}}
	for place := range 6 {
		inverts(t, "below the root", row(), insert(1, place, node(9)), remove(9), true)
		inverts(t, "below the root, with all below it", row(), insert(1, place, sub), remove(20), true)
	}
	for place := range 3 {
		inverts(t, "below one of several", row(), insert(4, place, sub), remove(20), true)
	}
	for _, leaf := range []int{2, 3, 5, 6, 7, 8} {
		inverts(t, "below a leaf", row(), insert(leaf, 0, sub), remove(20), true)
	}
	inverts(t, "below a root alone", node(7), insert(7, 0, node(1)), remove(1), true)
	inverts(t, "below the zero node", api.Node{}, insert(0, 0, node(1)), remove(1), true)
	inverts(t, "the greatest id", row(), insert(1, 0, node(api.MaxNumber)), remove(api.MaxNumber), true)
	inverts(t, "the others' fields count for nothing", row(), api.Step{Op: api.StInsert, Id: 2, Parent: 1, Place: 1, Text: "x", Sub: node(9)}, remove(9), true)
}

// P10.1, P10.3: the inverse of a delete is an insert of all that went, where it stood.
func TestInvertDelete(t *testing.T) {
	for id, want := range map[int]api.Step{
		2: insert(1, 0, api.Node{Id: 2, Kind: 1, Text: "two"}),
		3: insert(1, 1, api.Node{Id: 3}),
		4: insert(1, 2, api.Node{Id: 4, Kind: 2, Text: "four", Kids: []api.Node{{Id: 7, Kind: 3, Text: "seven"}, {Id: 8}}}),
		5: insert(1, 3, api.Node{Id: 5, Kind: -1}),
		6: insert(1, 4, api.Node{Id: 6, Kind: 5, Text: "six"}),
		7: insert(4, 0, api.Node{Id: 7, Kind: 3, Text: "seven"}),
		8: insert(4, 1, api.Node{Id: 8}),
	} {
		inverts(t, "Delete", row(), remove(id), want, true)
		s := api.Step{Op: api.StDelete, Id: id, Parent: 77, Place: -1, Text: "x", Sub: node(1)}
		inverts(t, "the others' fields count for nothing", row(), s, want, true)
	}
	inverts(t, "an only kid", small(), remove(4), insert(3, 0, node(4)), true)
	line := node(1, node(2, node(3, node(4, node(5)))))
	inverts(t, "all but the root", line, remove(2), insert(1, 0, line.Kids[0]), true)
	inverts(t, "the lowest one", line, remove(5), insert(4, 0, node(5)), true)
	inverts(t, "the last kid, with all below it", node(1, node(2), node(3), node(4, node(5, node(6)), node(7))), remove(4), insert(1, 2, node(4, node(5, node(6)), node(7))), true)
	inverts(t, "ids that may not be", node(1, node(-1, node(0))), remove(-1), insert(1, 0, node(-1, node(0))), false)
}

// P10.1, P10.3: the inverse of a move is a move to where it stood, counted without it.
func TestInvertMove(t *testing.T) {
	for what, c := range map[string]struct{ s, want api.Step }{
		"to where it stands, first":        {move(2, 1, 0), move(2, 1, 0)},
		"to where it stands, in the midst": {move(4, 1, 2), move(4, 1, 2)},
		"to where it stands, last":         {move(6, 1, 4), move(6, 1, 4)},
		"to where it stands, below":        {move(8, 4, 1), move(8, 4, 1)},
		"one ahead":                        {move(4, 1, 1), move(4, 1, 2)},
		"ahead of all":                     {move(4, 1, 0), move(4, 1, 2)},
		"one behind":                       {move(4, 1, 3), move(4, 1, 2)},
		"behind all":                       {move(4, 1, 4), move(4, 1, 2)},
		"the first one, one behind":        {move(2, 1, 1), move(2, 1, 0)},
		"the first one behind all":         {move(2, 1, 4), move(2, 1, 0)},
		"the last one, one ahead":          {move(6, 1, 3), move(6, 1, 4)},
		"the last one ahead of all":        {move(6, 1, 0), move(6, 1, 4)},
		"two change":                       {move(7, 4, 1), move(7, 4, 0)},
		"two change, the other one":        {move(8, 4, 0), move(8, 4, 1)},
		"to one ahead":                     {move(4, 2, 0), move(4, 1, 2)},
		"to one behind":                    {move(4, 6, 0), move(4, 1, 2)},
		"from ahead, below, first":         {move(2, 4, 0), move(2, 1, 0)},
		"from ahead, below, last":          {move(2, 4, 2), move(2, 1, 0)},
		"from behind, below":               {move(6, 4, 1), move(6, 1, 4)},
		"from behind, to a leaf":           {move(6, 7, 0), move(6, 1, 4)},
		"up, ahead of where it was":        {move(7, 1, 2), move(7, 4, 0)},
		"up, behind where it was":          {move(8, 1, 3), move(8, 4, 1)},
		"up, last":                         {move(7, 1, 5), move(7, 4, 0)},
		"to a sibling":                     {move(7, 8, 0), move(7, 4, 0)},
		"to a sibling ahead":               {move(8, 7, 0), move(8, 4, 1)},
		"Text and Sub count for nothing":   {api.Step{Op: api.StMove, Id: 7, Parent: 2, Text: "x", Sub: node(1, node(1))}, move(7, 4, 0)},
	} {
		inverts(t, what, row(), c.s, c.want, true)
	}
	inverts(t, "an only kid to where it stands", small(), move(4, 3, 0), move(4, 3, 0), true)
	inverts(t, "an only kid goes up", small(), move(4, 1, 2), move(4, 3, 0), true)
	inverts(t, "down three", node(1, node(2, node(3, node(4))), node(5)), move(5, 4, 0), move(5, 1, 1), true)
	inverts(t, "up three", node(1, node(2, node(3, node(4)))), move(4, 1, 0), move(4, 3, 0), true)
	inverts(t, "ids that may not be", node(0, node(-1), node(-2)), move(-2, -1, 0), move(-2, 0, 1), true)
}

// P10.1, P10.3: the inverse of a text is the text as it is.
func TestInvertText(t *testing.T) {
	long := strings.Repeat("w", 10_000)
	for id, was := range map[int]string{1: "one", 2: "two", 3: "", 4: "four", 5: "", 6: "six", 7: "seven", 8: ""} {
		for _, text := range []string{"x", "", was, "\x00\"\\", long} {
			inverts(t, "Text", row(), write(id, text), write(id, was), true)
			s := api.Step{Op: api.StText, Id: id, Text: text, Parent: 2, Place: -1, Sub: node(1, node(1))}
			inverts(t, "the others' fields count for nothing", row(), s, write(id, was), true)
		}
	}
	inverts(t, "one that is too long", api.Node{Id: 1, Text: long}, write(1, "x"), write(1, long), true)
	inverts(t, "the zero node", api.Node{}, write(0, "x"), write(0, ""), true)
}

// P10.1: of steps that do not go, step.Apply's error.
func TestInvertFails(t *testing.T) {
	for what, c := range map[string]struct {
		s api.Step
		e api.Errno
	}{
		"insert: no Parent":                     {insert(9, 0, node(8)), api.ErrNone},
		"insert: no Parent, no place":           {insert(9, -1, node(0)), api.ErrNone},
		"insert: the place below 0":             {insert(1, -1, node(8)), api.ErrArg},
		"insert: one past behind the last kid":  {insert(1, 3, node(8)), api.ErrArg},
		"insert: the greatest place":            {insert(1, math.MaxInt, node(8)), api.ErrArg},
		"insert: the least place":               {insert(1, math.MinInt, node(8)), api.ErrArg},
		"insert: no place, an id that is there": {insert(1, 3, node(1)), api.ErrArg},
		"insert: the id 0":                      {insert(1, 0, node(0)), api.ErrArg},
		"insert: an id past MaxNumber below":    {insert(1, 0, node(8, node(api.MaxNumber+1))), api.ErrArg},
		"insert: an id that is there, then 0":   {insert(1, 0, node(4, node(0))), api.ErrArg},
		"insert: an id that is there":           {insert(1, 0, node(4)), api.ErrTwice},
		"insert: an id that is there, below":    {insert(1, 0, node(8, node(2))), api.ErrTwice},
		"insert: an id twice":                   {insert(1, 0, node(8, node(9), node(9))), api.ErrTwice},
		"delete: not there":                     {remove(9), api.ErrNone},
		"delete: 0":                             {remove(0), api.ErrNone},
		"delete: by 2^32":                       {remove(1<<32 + 2), api.ErrNone},
		"delete: the root":                      {remove(1), api.ErrRoot},
		"move: Id is not there":                 {move(9, 1, 0), api.ErrNone},
		"move: Parent is not there":             {move(2, 9, 0), api.ErrNone},
		"move: the root to one not there":       {move(1, 9, 0), api.ErrNone},
		"move: the root into itself":            {move(1, 1, 0), api.ErrRoot},
		"move: the root to no place":            {move(1, 2, -1), api.ErrRoot},
		"move: into itself":                     {move(3, 3, 0), api.ErrLoop},
		"move: below itself":                    {move(3, 4, 0), api.ErrLoop},
		"move: below itself, no place":          {move(3, 4, 9), api.ErrLoop},
		"move: the place below 0":               {move(2, 3, -1), api.ErrArg},
		"move: one past behind the last kid":    {move(2, 3, 2), api.ErrArg},
		"move: counted without it":              {move(2, 1, 2), api.ErrArg},
		"move: an only kid, without it":         {move(4, 3, 1), api.ErrArg},
		"text: not there":                       {write(9, ""), api.ErrNone},
		"text: below 0":                         {write(-1, ""), api.ErrNone},
		"text: Parent is there, Id is not":      {api.Step{Op: api.StText, Id: 9, Parent: 1}, api.ErrNone},
	} {
		fails(t, what, small(), c.s, c.e)
	}
	fails(t, "delete: a root alone", node(7), remove(7), api.ErrRoot)
	fails(t, "delete: the zero node", api.Node{}, remove(0), api.ErrRoot)
	fails(t, "move: the zero node", api.Node{}, move(0, 0, 0), api.ErrRoot)
	fails(t, "text: not there, the zero node", api.Node{}, write(1, ""), api.ErrNone)
}

// P10.1: Ops that are none, whatever else stands there.
func TestNoOp(t *testing.T) {
	for op := math.MinInt8; op <= math.MaxInt8; op++ {
		if op >= int(api.StInsert) && op <= int(api.StText) {
			continue
		}
		fails(t, "no Op", small(), api.Step{Op: int8(op), Id: 2, Parent: 1, Sub: node(9)}, api.ErrArg)
		fails(t, "no Op, the root", small(), api.Step{Op: int8(op), Id: 1, Parent: 1}, api.ErrArg)
		fails(t, "no Op, no id", small(), api.Step{Op: int8(op), Id: 9, Parent: 9, Place: -1}, api.ErrArg)
	}
	fails(t, "the zero step", small(), api.Step{}, api.ErrArg)
	fails(t, "the zero step, the zero node", api.Node{}, api.Step{}, api.ErrArg)
}

// P10.1: of several nodes of one id the first one in the walk counts.
func TestTwice(t *testing.T) {
	said := func() api.Node {
		x := twice()
		x.Kids[0].Kids[0].Kids[0].Text, x.Kids[3].Text = "first", "late"
		x.Kids[0].Text, x.Kids[0].Kids[0].Text = "upper", "lower"
		return x
	}
	for what, c := range map[string]struct{ s, want api.Step }{
		"insert below the upper one":          {insert(2, 2, node(11)), remove(11)},
		"delete the upper one":                {remove(2), insert(1, 0, said().Kids[0])},
		"delete the one ahead":                {remove(3), insert(1, 1, node(3, node(7)))},
		"delete the deeper one":               {remove(4), insert(2, 0, api.Node{Id: 4, Text: "first"})},
		"delete below the later one":          {remove(9), insert(1, 0, node(9))},
		"delete beside the later one":         {remove(8), insert(3, 0, node(8))},
		"move the one ahead":                  {move(3, 1, 3), move(3, 1, 1)},
		"move the one ahead to the later one": {move(3, 8, 0), move(3, 1, 1)},
		"move to the one ahead":               {move(8, 3, 1), move(8, 3, 0)},
		"move the deeper one":                 {move(4, 10, 0), move(4, 2, 0)},
		"move from below the lower one":       {move(5, 1, 0), move(5, 2, 1)},
		"text of the upper one":               {write(2, "x"), write(2, "upper")},
		"text of the deeper one":              {write(4, "x"), write(4, "first")},
		"text of the root":                    {write(1, "x"), write(1, "")},
	} {
		inverts(t, what, said(), c.s, c.want, false)
	}
	fails(t, "the root's id again", twice(), remove(1), api.ErrRoot)
	fails(t, "the root's id again, moved", twice(), move(1, 2, 0), api.ErrRoot)
	fails(t, "to one below the first one", twice(), move(2, 4, 0), api.ErrLoop)
	fails(t, "both of one id are one", twice(), move(3, 3, 0), api.ErrLoop)
	fails(t, "behind the kids of the one ahead", twice(), insert(3, 2, node(11)), api.ErrArg)
	fails(t, "an id that is there more than once", twice(), insert(1, 0, node(4)), api.ErrTwice)
}

// P10.1: Still of steps that go; those that do not are asked by fails.
func TestStill(t *testing.T) {
	for what, c := range map[string]struct {
		s    api.Step
		want bool
	}{
		"a move to where it stands, first":        {move(2, 1, 0), true},
		"a move to where it stands, in the midst": {move(4, 1, 2), true},
		"a move to where it stands, last":         {move(6, 1, 4), true},
		"a move to where it stands, below":        {move(8, 4, 1), true},
		"a move with more set":                    {api.Step{Op: api.StMove, Id: 8, Parent: 4, Place: 1, Text: "x", Sub: node(1)}, true},
		"one ahead":                               {move(4, 1, 1), false},
		"one behind":                              {move(4, 1, 3), false},
		"to the last place":                       {move(2, 1, 4), false},
		"to the first place":                      {move(6, 1, 0), false},
		"two change":                              {move(7, 4, 1), false},
		"to the same place of another one":        {move(4, 2, 0), false},
		"up":                                      {move(7, 1, 0), false},
		"a text that is there":                    {write(2, "two"), true},
		"a text that is there, with more set":     {api.Step{Op: api.StText, Id: 2, Text: "two", Parent: 9, Place: 9, Sub: node(1)}, true},
		"the root's text that is there":           {write(1, "one"), true},
		"the last one's text that is there":       {write(6, "six"), true},
		"no text where there is none":             {write(3, ""), true},
		"no text where there is one":              {write(2, ""), false},
		"a text where there is none":              {write(3, "x"), false},
		"a longer text":                           {write(2, "two "), false},
		"another text of as many bytes":           {write(8, "t"), false},
		"the text of another one":                 {write(7, "two"), false},
		"a delete":                                {remove(2), false},
		"a delete of the last one":                {remove(8), false},
		"an insert":                               {insert(1, 0, node(9)), false},
		"an insert behind all":                    {insert(4, 2, node(9)), false},
	} {
		if _, e := step.Apply(row(), c.s); e != api.OK {
			t.Errorf("%s: does not go: %v", what, e)
		}
		if undo.Still(row(), c.s) != c.want {
			t.Errorf("%s: %t", what, !c.want)
		}
	}
	if !undo.Still(small(), move(4, 3, 0)) {
		t.Error("an only kid to where it stands")
	}
	if !undo.Still(api.Node{}, write(0, "")) || undo.Still(api.Node{}, write(0, "x")) {
		t.Error("the zero node")
	}
	if !undo.Still(api.Node{Id: 1, Kids: []api.Node{{Id: 2, Kids: []api.Node{}}, {Id: 3}}}, move(3, 1, 1)) {
		t.Error("kids of nothing and none are not alike")
	}
}

// P10.1: Still of trees in which ids are more than once: what counts is whether the tree is left as it is.
func TestStillTwice(t *testing.T) {
	twins := node(1, node(2, node(3)), node(2, node(3)), node(4))
	for what, c := range map[string]struct {
		s    api.Step
		want bool
	}{
		"behind one that is the same": {move(2, 1, 1), true},
		"to where it stands":          {move(2, 1, 0), true},
		"behind one that is not":      {move(2, 1, 2), false},
		"the other one's text":        {write(2, "x"), false},
		"one of the two":              {remove(2), false},
	} {
		if undo.Still(twins, c.s) != c.want {
			t.Errorf("%s: %t", what, !c.want)
		}
	}
	x := twice()
	x.Kids[3].Text = "late"
	if undo.Still(x, write(4, "late")) || !undo.Still(x, write(4, "")) {
		t.Error("the later one's text")
	}
}

// P10.2: of each Op, and of all that are none, the fields that it names.
func TestPlain(t *testing.T) {
	sub := api.Node{Id: 4, Kind: 2, Text: "s", Kids: []api.Node{{Id: 5, Text: "u"}, {Id: 6, Kids: []api.Node{{Id: 5}}}}}
	for _, full := range []api.Step{
		{Id: 1, Parent: 2, Place: 3, Text: "t", Sub: sub},
		{Id: -1, Parent: math.MinInt, Place: math.MaxInt, Text: strings.Repeat("w", 10_000), Sub: api.Node{Id: -7, Kind: -1, Kids: []api.Node{{}, {Id: math.MaxInt}}}},
		{Text: "\x00"},
		{Sub: api.Node{Kids: []api.Node{{}}}},
		{},
	} {
		for op := math.MinInt8; op <= math.MaxInt8; op++ {
			full.Op = int8(op)
			want := api.Step{Op: full.Op}
			switch full.Op {
			case api.StInsert:
				want.Parent, want.Place, want.Sub = full.Parent, full.Place, full.Sub
			case api.StDelete:
				want.Id = full.Id
			case api.StMove:
				want.Id, want.Parent, want.Place = full.Id, full.Parent, full.Place
			case api.StText:
				want.Id, want.Text = full.Id, full.Text
			}
			p := undo.Plain(full)
			if !alike(p, want) {
				t.Errorf("%v; want %v", p, want)
			}
			if !alike(undo.Plain(p), p) || !step.Same(p, full) {
				t.Errorf("%v is another step than %v", p, full)
			}
		}
	}
}
