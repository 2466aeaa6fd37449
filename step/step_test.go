package step_test

import (
	"math"
	"slices"
	"strings"
	"testing"

	"allotment/api"
	"allotment/step"
	"allotment/tree"
)

// node gives a node of the kind 0 in memory of its own.
func node(id int, kids ...api.Node) api.Node {
	return api.Node{Id: id, Kids: slices.Clone(kids)}
}

func insert(parent, place int, sub api.Node) api.Step {
	return api.Step{Op: api.StInsert, Parent: parent, Place: place, Sub: sub}
}

func remove(id int) api.Step {
	return api.Step{Op: api.StDelete, Id: id}
}

func move(id, parent, place int) api.Step {
	return api.Step{Op: api.StMove, Id: id, Parent: parent, Place: place}
}

func write(id int, text string) api.Step {
	return api.Step{Op: api.StText, Id: id, Text: text}
}

// small is the tree of the chapter's examples.
func small() api.Node {
	return node(1, node(2), node(3, node(4)))
}

// row is a root with five kids, one of which has two.
func row() api.Node {
	return node(1, node(2), node(3), node(4, node(7), node(8)), node(5), node(6))
}

// twice has ids that are there more than once: 1, the root's, below itself; 2 one above the other; 3 side by side; 4 far apart, the deeper one ahead.
func twice() api.Node {
	return node(1,
		node(2, node(2, node(4), node(5)), node(6)),
		node(3, node(7)),
		node(3, node(8), node(1, node(9))),
		node(4, node(10)))
}

// shape tells a tree's ids.
func shape(x api.Node) string {
	return strings.ReplaceAll(tree.Show(x), ":0", "")
}

// zero checks that a node is none.
func zero(t *testing.T, what string, x api.Node) {
	t.Helper()
	if x.Id != 0 || x.Kind != 0 || x.Text != "" || len(x.Kids) > 0 {
		t.Errorf("%s: %v; want the zero node", what, x)
	}
}

// goes checks that a step goes, and what is behind it.
func goes(t *testing.T, what string, x api.Node, s api.Step, want string) {
	t.Helper()
	y, e := step.Apply(x, s)
	if e != api.OK || shape(y) != want {
		t.Errorf("%s: %s, %v; want %s", what, shape(y), e, want)
	}
}

// fails checks that a step does not go, and why.
func fails(t *testing.T, what string, x api.Node, s api.Step, want api.Errno) {
	t.Helper()
	y, e := step.Apply(x, s)
	if e != want {
		t.Errorf("%s: %v; want %v", what, e, want)
	}
	zero(t, what, y)
}

// The chapter's examples.
func TestExamples(t *testing.T) {
	goes(t, "Move 2 to 3 at 1", small(), move(2, 3, 1), "1(3(4,2))")
	fails(t, "Move 3 to 4 at 0", small(), move(3, 4, 0), api.ErrLoop)
	goes(t, "Move 2 to 1 at 1", small(), move(2, 1, 1), "1(3(4),2)")
}

// P9.1: inserts that go.
func TestInsert(t *testing.T) {
	for what, c := range map[string]struct {
		s    api.Step
		want string
	}{
		"below the root, first":            {insert(1, 0, node(9)), "1(9,2,3(4))"},
		"below the root, in the midst":     {insert(1, 1, node(9)), "1(2,9,3(4))"},
		"below the root, last":             {insert(1, 2, node(9)), "1(2,3(4),9)"},
		"below a leaf":                     {insert(2, 0, node(9)), "1(2(9),3(4))"},
		"below the last leaf":              {insert(4, 0, node(9)), "1(2,3(4(9)))"},
		"ahead of an only kid":             {insert(3, 0, node(9)), "1(2,3(9,4))"},
		"behind an only kid":               {insert(3, 1, node(9)), "1(2,3(4,9))"},
		"with all below it":                {insert(3, 0, node(9, node(7, node(8)), node(6))), "1(2,3(9(7(8),6),4))"},
		"the least id":                     {insert(3, 1, node(9, node(5))), "1(2,3(4,9(5)))"},
		"the greatest id":                  {insert(2, 0, node(api.MaxNumber)), "1(2(1125899906842624),3(4))"},
		"the greatest id below":            {insert(2, 0, node(9, node(api.MaxNumber))), "1(2(9(1125899906842624)),3(4))"},
		"Id and Text count for nothing":    {api.Step{Op: api.StInsert, Id: 77, Parent: 2, Text: "x", Sub: node(9)}, "1(2(9),3(4))"},
		"Id may be one that is there, too": {api.Step{Op: api.StInsert, Id: 1, Parent: 2, Sub: node(9)}, "1(2(9),3(4))"},
	} {
		goes(t, what, small(), c.s, c.want)
	}
	goes(t, "below a root alone", node(7), insert(7, 0, node(1)), "7(1)")
	goes(t, "below the zero node", api.Node{}, insert(0, 0, node(1)), "0(1)")
	goes(t, "below an id below 0", node(-3, node(0)), insert(-3, 1, node(1)), "-3(0,1)")
	for place, want := range []string{"1(9,2,3,4(7,8),5,6)", "1(2,9,3,4(7,8),5,6)", "1(2,3,9,4(7,8),5,6)", "1(2,3,4(7,8),9,5,6)", "1(2,3,4(7,8),5,9,6)", "1(2,3,4(7,8),5,6,9)"} {
		goes(t, "each place", row(), insert(1, place, node(9)), want)
	}
}

// P9.1: of the root, kinds and texts go in as they are.
func TestInsertWhole(t *testing.T) {
	sub := api.Node{Id: 9, Kind: -7, Text: "a \"b\"", Kids: []api.Node{{Id: 8, Kind: math.MaxInt, Text: strings.Repeat("x", 100)}}}
	y, e := step.Apply(small(), insert(3, 0, sub))
	if e != api.OK || !tree.Same(y, node(1, node(2), node(3, sub, node(4)))) {
		t.Error(tree.Show(y), e)
	}
}

// P9.1: inserts that do not go; where several errors fit, the first one in the chapter's order.
func TestInsertFails(t *testing.T) {
	for what, c := range map[string]struct {
		s api.Step
		e api.Errno
	}{
		"Parent is not there":                      {insert(9, 0, node(8)), api.ErrNone},
		"Parent is in Sub alone":                   {insert(8, 0, node(8)), api.ErrNone},
		"Parent is 0":                              {insert(0, 0, node(8)), api.ErrNone},
		"Parent is below 0":                        {insert(-1, 0, node(8)), api.ErrNone},
		"Parent is another one by 2^32":            {insert(1<<32+1, 0, node(8)), api.ErrNone},
		"Id is there, Parent is not":               {api.Step{Op: api.StInsert, Id: 1, Parent: 9, Sub: node(8)}, api.ErrNone},
		"no Parent, no place":                      {insert(9, -1, node(8)), api.ErrNone},
		"no Parent, no id":                         {insert(9, 0, node(0)), api.ErrNone},
		"no Parent, an id that is there":           {insert(9, 0, node(1)), api.ErrNone},
		"the place below 0":                        {insert(1, -1, node(8)), api.ErrArg},
		"one past behind the last kid":             {insert(1, 3, node(8)), api.ErrArg},
		"one past where there are none":            {insert(2, 1, node(8)), api.ErrArg},
		"past where there is one":                  {insert(3, 2, node(8)), api.ErrArg},
		"the greatest place":                       {insert(1, math.MaxInt, node(8)), api.ErrArg},
		"the least place":                          {insert(1, math.MinInt, node(8)), api.ErrArg},
		"a place that is 0 by 2^32":                {insert(1, 1<<32, node(8)), api.ErrArg},
		"no place, an id that is there":            {insert(1, 3, node(1)), api.ErrArg},
		"no place, an id that may not be":          {insert(1, -1, node(0)), api.ErrArg},
		"the id 0":                                 {insert(1, 0, node(0)), api.ErrArg},
		"the zero node":                            {insert(1, 0, api.Node{}), api.ErrArg},
		"an id below 0":                            {insert(1, 0, node(-1)), api.ErrArg},
		"the least id":                             {insert(1, 0, node(math.MinInt)), api.ErrArg},
		"an id past MaxNumber":                     {insert(1, 0, node(api.MaxNumber+1)), api.ErrArg},
		"the greatest id":                          {insert(1, 0, node(math.MaxInt)), api.ErrArg},
		"the id 0 below":                           {insert(1, 0, node(8, node(9), node(7, node(0)))), api.ErrArg},
		"an id past MaxNumber below":               {insert(1, 0, node(8, node(api.MaxNumber+1))), api.ErrArg},
		"an id that is there, then 0":              {insert(1, 0, node(4, node(0))), api.ErrArg},
		"0, then an id that is there":              {insert(1, 0, node(0, node(4))), api.ErrArg},
		"an id twice, then one past MaxNumber":     {insert(1, 0, node(8, node(8), node(api.MaxNumber+1))), api.ErrArg},
		"0 twice":                                  {insert(1, 0, node(0, node(0))), api.ErrArg},
		"the root's id":                            {insert(1, 0, node(1)), api.ErrTwice},
		"Parent's id":                              {insert(3, 0, node(3)), api.ErrTwice},
		"a leaf's id":                              {insert(1, 0, node(4)), api.ErrTwice},
		"an id ahead":                              {insert(3, 0, node(2)), api.ErrTwice},
		"an id that is there, below":               {insert(1, 0, node(8, node(9, node(4)))), api.ErrTwice},
		"an id that is there, first of several":    {insert(1, 0, node(2, node(9))), api.ErrTwice},
		"an id twice, one above the other":         {insert(1, 0, node(8, node(8))), api.ErrTwice},
		"an id twice, side by side":                {insert(1, 0, node(8, node(9), node(9))), api.ErrTwice},
		"an id twice, far apart":                   {insert(1, 0, node(8, node(9, node(7)), node(6, node(5, node(7))))), api.ErrTwice},
		"MaxNumber twice":                          {insert(1, 0, node(api.MaxNumber, node(api.MaxNumber))), api.ErrTwice},
		"an id twice, one that is there":           {insert(1, 0, node(8, node(8), node(4))), api.ErrTwice},
		"an id that is there, Id is one that isnt": {api.Step{Op: api.StInsert, Id: 77, Parent: 1, Sub: node(1)}, api.ErrTwice},
	} {
		fails(t, what, small(), c.s, c.e)
	}
	fails(t, "an id of the tree that may not be", node(-5, node(0)), insert(-5, 0, node(-5)), api.ErrArg)
	fails(t, "an id that is there more than once", twice(), insert(1, 0, node(4)), api.ErrTwice)
	fails(t, "the later one's kid", twice(), insert(1, 0, node(10)), api.ErrTwice)
}

// P9.1: deletes.
func TestDelete(t *testing.T) {
	for id, want := range map[int]string{2: "1(3,4(7,8),5,6)", 3: "1(2,4(7,8),5,6)", 4: "1(2,3,5,6)", 5: "1(2,3,4(7,8),6)", 6: "1(2,3,4(7,8),5)", 7: "1(2,3,4(8),5,6)", 8: "1(2,3,4(7),5,6)"} {
		goes(t, "Delete", row(), remove(id), want)
	}
	goes(t, "an only kid", small(), remove(4), "1(2,3)")
	goes(t, "all but the root", node(1, node(3, node(4))), remove(3), "1")
	goes(t, "the others' fields count for nothing", small(), api.Step{Op: api.StDelete, Id: 2, Parent: 77, Place: -1, Text: "x", Sub: node(1)}, "1(3(4))")
	goes(t, "an id that may not be", node(1, node(0), node(-1)), remove(0), "1(-1)")
	for _, id := range []int{9, 0, -1, math.MaxInt, math.MinInt, 1<<32 + 2} {
		fails(t, "not there", small(), remove(id), api.ErrNone)
	}
	fails(t, "Parent is there, Id is not", small(), api.Step{Op: api.StDelete, Id: 9, Parent: 2}, api.ErrNone)
	fails(t, "the root", small(), remove(1), api.ErrRoot)
	fails(t, "a root alone", node(7), remove(7), api.ErrRoot)
	fails(t, "not there, a root alone", node(7), remove(8), api.ErrNone)
	fails(t, "the zero node", api.Node{}, remove(0), api.ErrRoot)
}

// P9.1: moves that go.
func TestMove(t *testing.T) {
	for what, c := range map[string]struct {
		s    api.Step
		want string
	}{
		"to where it stands, first":        {move(2, 1, 0), "1(2,3,4(7,8),5,6)"},
		"to where it stands, in the midst": {move(4, 1, 2), "1(2,3,4(7,8),5,6)"},
		"to where it stands, last":         {move(6, 1, 4), "1(2,3,4(7,8),5,6)"},
		"to where it stands, below":        {move(8, 4, 1), "1(2,3,4(7,8),5,6)"},
		"one ahead":                        {move(4, 1, 1), "1(2,4(7,8),3,5,6)"},
		"ahead of all":                     {move(4, 1, 0), "1(4(7,8),2,3,5,6)"},
		"one behind":                       {move(4, 1, 3), "1(2,3,5,4(7,8),6)"},
		"behind all":                       {move(4, 1, 4), "1(2,3,5,6,4(7,8))"},
		"the first one behind all":         {move(2, 1, 4), "1(3,4(7,8),5,6,2)"},
		"the last one ahead of all":        {move(6, 1, 0), "1(6,2,3,4(7,8),5)"},
		"two change":                       {move(7, 4, 1), "1(2,3,4(8,7),5,6)"},
		"two change, the other one":        {move(8, 4, 0), "1(2,3,4(8,7),5,6)"},
		"to one ahead":                     {move(4, 2, 0), "1(2(4(7,8)),3,5,6)"},
		"to one behind":                    {move(4, 6, 0), "1(2,3,5,6(4(7,8)))"},
		"from ahead, below, first":         {move(2, 4, 0), "1(3,4(2,7,8),5,6)"},
		"from ahead, below, in the midst":  {move(2, 4, 1), "1(3,4(7,2,8),5,6)"},
		"from ahead, below, last":          {move(2, 4, 2), "1(3,4(7,8,2),5,6)"},
		"from behind, below, last":         {move(6, 4, 2), "1(2,3,4(7,8,6),5)"},
		"from behind, to a leaf":           {move(6, 7, 0), "1(2,3,4(7(6),8),5)"},
		"up, first":                        {move(7, 1, 0), "1(7,2,3,4(8),5,6)"},
		"up, ahead of where it was":        {move(7, 1, 2), "1(2,3,7,4(8),5,6)"},
		"up, behind where it was":          {move(8, 1, 3), "1(2,3,4(7),8,5,6)"},
		"up, last":                         {move(8, 1, 5), "1(2,3,4(7),5,6,8)"},
		"to a sibling":                     {move(7, 8, 0), "1(2,3,4(8(7)),5,6)"},
		"to a sibling ahead":               {move(8, 7, 0), "1(2,3,4(7(8)),5,6)"},
		"Text and Sub count for nothing":   {api.Step{Op: api.StMove, Id: 7, Parent: 2, Text: "x", Sub: node(1, node(1))}, "1(2(7),3,4(8),5,6)"},
	} {
		goes(t, what, row(), c.s, c.want)
	}
	goes(t, "an only kid to where it stands", small(), move(4, 3, 0), "1(2,3(4))")
	goes(t, "an only kid goes up", small(), move(4, 1, 2), "1(2,3,4)")
	goes(t, "down three", node(1, node(2, node(3, node(4))), node(5)), move(5, 4, 0), "1(2(3(4(5))))")
	goes(t, "up three", node(1, node(2, node(3, node(4)))), move(4, 1, 0), "1(4,2(3))")
	goes(t, "ids that may not be", node(0, node(-1), node(-2)), move(-2, -1, 0), "0(-1(-2))")
}

// P9.1: moves that do not go; where several errors fit, the first one in the chapter's order.
func TestMoveFails(t *testing.T) {
	for what, c := range map[string]struct {
		s api.Step
		e api.Errno
	}{
		"Id is not there":               {move(9, 1, 0), api.ErrNone},
		"Parent is not there":           {move(2, 9, 0), api.ErrNone},
		"neither is there":              {move(9, 10, 0), api.ErrNone},
		"neither, both the same":        {move(9, 9, 0), api.ErrNone},
		"0 and 0":                       {move(0, 0, 0), api.ErrNone},
		"below 0":                       {move(-1, 1, 0), api.ErrNone},
		"Parent below 0":                {move(2, -1, 0), api.ErrNone},
		"by 2^32":                       {move(1<<32+2, 1, 0), api.ErrNone},
		"Parent by 2^32":                {move(2, 1<<32+1, 0), api.ErrNone},
		"the root to one not there":     {move(1, 9, 0), api.ErrNone},
		"one not there to the root":     {move(9, 1, -1), api.ErrNone},
		"no Parent, no place":           {move(2, 9, -1), api.ErrNone},
		"Parent is in Sub alone":        {api.Step{Op: api.StMove, Id: 2, Parent: 9, Sub: node(9)}, api.ErrNone},
		"Id is in Sub alone":            {api.Step{Op: api.StMove, Id: 9, Parent: 1, Sub: node(9)}, api.ErrNone},
		"the root into itself":          {move(1, 1, 0), api.ErrRoot},
		"the root below itself":         {move(1, 4, 0), api.ErrRoot},
		"the root to no place":          {move(1, 2, -1), api.ErrRoot},
		"the root into itself, nowhere": {move(1, 1, 9), api.ErrRoot},
		"into itself":                   {move(3, 3, 0), api.ErrLoop},
		"into itself, a leaf":           {move(4, 4, 0), api.ErrLoop},
		"below itself":                  {move(3, 4, 0), api.ErrLoop},
		"into itself, no place":         {move(3, 3, -1), api.ErrLoop},
		"below itself, no place":        {move(3, 4, 2), api.ErrLoop},
		"a leaf into itself, no place":  {move(2, 2, math.MaxInt), api.ErrLoop},
		"the place below 0":             {move(2, 3, -1), api.ErrArg},
		"the least place":               {move(2, 3, math.MinInt), api.ErrArg},
		"one past behind the last kid":  {move(2, 3, 2), api.ErrArg},
		"the greatest place":            {move(2, 3, math.MaxInt), api.ErrArg},
		"a place that is 0 by 2^32":     {move(2, 3, 1<<32), api.ErrArg},
		"one past where there are none": {move(4, 2, 1), api.ErrArg},
		"counted without it":            {move(2, 1, 2), api.ErrArg},
		"the last one, without it":      {move(3, 1, 2), api.ErrArg},
		"an only kid, without it":       {move(4, 3, 1), api.ErrArg},
		"among its own, below 0":        {move(2, 1, -1), api.ErrArg},
		"up, one past behind the last":  {move(4, 1, 3), api.ErrArg},
	} {
		fails(t, what, small(), c.s, c.e)
	}
	fails(t, "below itself, far", node(1, node(2, node(3, node(4), node(5)))), move(2, 5, 0), api.ErrLoop)
	fails(t, "a root alone", node(7), move(7, 7, 0), api.ErrRoot)
	fails(t, "the zero node", api.Node{}, move(0, 0, 0), api.ErrRoot)
}

// P9.1: texts, of any length.
func TestText(t *testing.T) {
	long := strings.Repeat("w", 10_000)
	for what, c := range map[string]struct {
		id   int
		text string
		want string
	}{
		"the root":             {1, "x", `1:0"x"(2:0,3:0(4:0))`},
		"the root, none":       {1, "", "1:0(2:0,3:0(4:0))"},
		"a leaf":               {2, "x", `1:0(2:0"x",3:0(4:0))`},
		"one with kids":        {3, "a b", `1:0(2:0,3:0"a b"(4:0))`},
		"the last one":         {4, "\x00\"\\", "1:0(2:0,3:0(4:0\"\x00\\\"\\\\\"))"},
		"one that is too long": {4, long, `1:0(2:0,3:0(4:0"` + long + `"))`},
	} {
		y, e := step.Apply(small(), write(c.id, c.text))
		if e != api.OK || tree.Show(y) != c.want {
			t.Errorf("%s: %s, %v; want %s", what, tree.Show(y), e, c.want)
		}
	}
	said := api.Node{Id: 1, Kind: 3, Text: "t", Kids: []api.Node{{Id: 2, Kind: -2, Text: "u"}}}
	for _, c := range []struct {
		s    api.Step
		want string
	}{
		{write(1, ""), `1:3(2:-2"u")`},
		{write(1, "t"), `1:3"t"(2:-2"u")`},
		{write(2, "v"), `1:3"t"(2:-2"v")`},
		{api.Step{Op: api.StText, Id: 2, Text: "v", Parent: 9, Place: -1, Sub: node(0, node(1), said)}, `1:3"t"(2:-2"v")`},
	} {
		y, e := step.Apply(said, c.s)
		if e != api.OK || tree.Show(y) != c.want {
			t.Errorf("%s, %v; want %s", tree.Show(y), e, c.want)
		}
	}
	for _, id := range []int{9, 0, -1, math.MaxInt, math.MinInt, 1<<32 + 1} {
		fails(t, "not there", small(), write(id, "x"), api.ErrNone)
	}
	fails(t, "Parent is there, Id is not", small(), api.Step{Op: api.StText, Id: 9, Parent: 1}, api.ErrNone)
}

// P9.1: Ops that are none, whatever else stands there.
func TestNoOp(t *testing.T) {
	for op := math.MinInt8; op <= math.MaxInt8; op++ {
		if op >= int(api.StInsert) && op <= int(api.StText) {
			continue
		}
		fails(t, "no Op", small(), api.Step{Op: int8(op), Id: 2, Parent: 3, Sub: node(9)}, api.ErrArg)
		fails(t, "no Op, no id", small(), api.Step{Op: int8(op), Id: 9, Parent: 9, Place: -1}, api.ErrArg)
		fails(t, "no Op, the root", node(1), api.Step{Op: int8(op), Id: 1, Parent: 1}, api.ErrArg)
	}
	fails(t, "the zero step", small(), api.Step{}, api.ErrArg)
	fails(t, "the zero step, the zero node", api.Node{}, api.Step{}, api.ErrArg)
}

// P9.1: of several nodes of one id the first one in the walk counts.
func TestTwice(t *testing.T) {
	for what, c := range map[string]struct {
		s    api.Step
		want string
	}{
		"insert below the root":               {insert(1, 4, node(11)), "1(2(2(4,5),6),3(7),3(8,1(9)),4(10),11)"},
		"insert below the upper one":          {insert(2, 2, node(11)), "1(2(2(4,5),6,11),3(7),3(8,1(9)),4(10))"},
		"insert below the one ahead":          {insert(3, 1, node(11)), "1(2(2(4,5),6),3(7,11),3(8,1(9)),4(10))"},
		"insert below the deeper one":         {insert(4, 0, node(11)), "1(2(2(4(11),5),6),3(7),3(8,1(9)),4(10))"},
		"delete the upper one":                {remove(2), "1(3(7),3(8,1(9)),4(10))"},
		"delete the one ahead":                {remove(3), "1(2(2(4,5),6),3(8,1(9)),4(10))"},
		"delete the deeper one":               {remove(4), "1(2(2(5),6),3(7),3(8,1(9)),4(10))"},
		"move the upper one":                  {move(2, 4, 0), ""}, // 4 is below it
		"move to the upper one":               {move(6, 2, 0), "1(2(6,2(4,5)),3(7),3(8,1(9)),4(10))"},
		"move the one ahead":                  {move(3, 1, 3), "1(2(2(4,5),6),3(8,1(9)),4(10),3(7))"},
		"move the one ahead to the later one": {move(3, 8, 0), "1(2(2(4,5),6),3(8(3(7)),1(9)),4(10))"},
		"move to the one ahead":               {move(8, 3, 1), "1(2(2(4,5),6),3(7,8),3(1(9)),4(10))"},
		"move the deeper one":                 {move(4, 10, 0), "1(2(2(5),6),3(7),3(8,1(9)),4(10(4)))"},
		"move from below the later one":       {move(9, 1, 0), "1(9,2(2(4,5),6),3(7),3(8,1),4(10))"},
	} {
		if c.want == "" {
			fails(t, what, twice(), c.s, api.ErrLoop)
			continue
		}
		goes(t, what, twice(), c.s, c.want)
	}
	fails(t, "the root's id again", twice(), remove(1), api.ErrRoot)
	fails(t, "the root's id again, moved", twice(), move(1, 2, 0), api.ErrRoot)
	fails(t, "both of one id are one", twice(), move(3, 3, 0), api.ErrLoop)
	fails(t, "behind the kids of the one ahead", twice(), insert(3, 2, node(11)), api.ErrArg)
	fails(t, "behind the kids of the one ahead, moved", twice(), move(10, 3, 2), api.ErrArg)
	y, e := step.Apply(twice(), write(4, "x"))
	if e != api.OK || y.Kids[0].Kids[0].Kids[0].Text != "x" || y.Kids[3].Text != "" {
		t.Error(tree.Show(y), e)
	}
	goes(t, "the later one is below, the first is not", node(1, node(2), node(3, node(2))), move(3, 2, 0), "1(2(3(2)))")
	fails(t, "the first is below, the later one is not", node(1, node(3, node(2)), node(2)), move(3, 2, 0), api.ErrLoop)
	goes(t, "of one id all", node(4, node(4, node(4)), node(5)), insert(4, 1, node(6)), "4(4(4),6,5)")
}
