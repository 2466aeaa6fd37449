package conform_test

import (
	"math"
	"strings"
	"testing"

	"allotment/api"
	"allotment/conform"
)

// The kinds of garden.
const (
	garden = iota
	bed
	plant
	stone
	path
)

// own gives a grammar of five kinds: a garden has up to nine beds, then up to two paths; a bed has a plant, then up to three stones or beds.
func own() api.Grammar {
	return api.Grammar{Root: garden, Kinds: []api.Kind{
		{Name: "garden", Slots: []api.Slot{{Kinds: []int{bed}, Most: 9}, {Kinds: []int{path}, Most: 2}}},
		{Name: "bed", Text: true, Slots: []api.Slot{{Kinds: []int{plant}, Least: 1, Most: 1}, {Kinds: []int{bed, stone}, Most: 3}}},
		{Name: "plant", Text: true},
		{Name: "stone"},
		{Name: "path"},
	}}
}

// lists gives a grammar of one kind, that may have a text and up to MaxMany of itself.
func lists() api.Grammar {
	return api.Grammar{Kinds: []api.Kind{{Name: "list", Text: true, Slots: []api.Slot{{Kinds: []int{0}, Most: api.MaxMany}}}}}
}

// of gives a node of that kind.
func of(kind, id int, kids ...api.Node) api.Node {
	return api.Node{Id: id, Kind: kind, Kids: kids}
}

// n gives a node of the kind 0.
func n(id int, kids ...api.Node) api.Node { return of(0, id, kids...) }

// said gives a node with that text.
func said(x api.Node, text string) api.Node {
	x.Text = text
	return x
}

// small gives a tree of own that conforms: 1 to 8, in the walk.
func small() api.Node {
	return n(1,
		said(of(bed, 2, said(of(plant, 3), "rose"), of(stone, 4)), "east"),
		of(bed, 5, of(plant, 6), of(bed, 7, of(plant, 8))),
		of(path, 9))
}

// isTree checks what Tree answers.
func isTree(t *testing.T, what string, g api.Grammar, x api.Node, at int, e api.Errno) {
	t.Helper()
	if gotAt, got := conform.Tree(g, x); gotAt != at || got != e {
		t.Errorf("%s: Tree: %d, %v; want %d, %v", what, gotAt, got, at, e)
	}
}

// isSub checks what Sub answers.
func isSub(t *testing.T, what string, g api.Grammar, x api.Node, at int, e api.Errno) {
	t.Helper()
	if gotAt, got := conform.Sub(g, x); gotAt != at || got != e {
		t.Errorf("%s: Sub: %d, %v; want %d, %v", what, gotAt, got, at, e)
	}
}

// isBoth checks what Tree and Sub answer, where it is the same.
func isBoth(t *testing.T, what string, g api.Grammar, x api.Node, at int, e api.Errno) {
	t.Helper()
	isTree(t, what, g, x, at, e)
	isSub(t, what, g, x, at, e)
}

// P7.1: the chapter's examples, and trees by hand.
func TestTree(t *testing.T) {
	isTree(t, "the chapter's first", own(), of(bed, 1, of(plant, 2)), 0, api.ErrForm)
	isBoth(t, "the chapter's second", lists(), n(1, n(2), n(2)), 2, api.ErrForm)
	for what, c := range map[string]struct {
		x  api.Node
		at int
		e  api.Errno
	}{
		"a root alone":                   {n(1), 0, api.OK},
		"a root alone, kids of nothing":  {n(1, []api.Node{}...), 0, api.OK},
		"a root alone, none made":        {api.Node{Id: 7, Kids: []api.Node{}}, 0, api.OK},
		"small":                          {small(), 0, api.OK},
		"ids in any order":               {n(9, of(bed, 5, of(plant, 2)), of(path, 1)), 0, api.OK},
		"the zero node":                  {api.Node{}, 0, api.ErrForm},
		"the root has a text":            {said(n(1), "x"), 0, api.ErrForm},
		"a kid has a text":               {n(1, of(path, 2), said(of(path, 3), "x")), 2, api.ErrForm},
		"a kid of no slot":               {n(1, of(stone, 2)), 0, api.ErrForm},
		"kids in another order":          {n(1, of(path, 2), of(bed, 3, of(plant, 4))), 0, api.ErrForm},
		"a bed without a plant":          {n(1, of(bed, 2, of(plant, 3)), of(bed, 4)), 3, api.ErrForm},
		"a bed whose plant comes later":  {n(1, of(bed, 2, of(stone, 3), of(plant, 4))), 1, api.ErrForm},
		"three paths":                    {n(1, of(path, 2), of(path, 3), of(path, 4)), 0, api.ErrForm},
		"two paths":                      {n(1, of(path, 2), of(path, 3)), 0, api.OK},
		"a plant with a stone":           {n(1, of(bed, 2, of(plant, 3, of(stone, 4)))), 2, api.ErrForm},
		"the last one of all":            {n(1, of(bed, 2, of(plant, 3)), of(path, 4, of(path, 5))), 3, api.ErrForm},
		"the root's kind below the root": {n(1, n(2)), 0, api.ErrForm},
	} {
		isBoth(t, what, own(), c.x, c.at, c.e)
	}
}

// P7.1: a root of each kind, for Tree and for Sub.
func TestRoot(t *testing.T) {
	for root := range 5 {
		g := own()
		g.Root = root
		for kind, x := range []api.Node{small(), of(bed, 1, of(plant, 2)), of(plant, 1), of(stone, 1), of(path, 1)} {
			isSub(t, "a root of each kind", g, x, 0, api.OK)
			if kind == root {
				isTree(t, "Root", g, x, 0, api.OK)
			} else {
				isTree(t, "not Root", g, x, 0, api.ErrForm)
			}
		}
	}
	wrong := of(bed, 1, of(plant, 2), of(bed, 3, of(plant, 2)))
	isSub(t, "a kid at fault below a root of another kind", own(), wrong, 3, api.ErrForm)
	isTree(t, "a kid at fault below a root of another kind", own(), wrong, 0, api.ErrForm)
	for _, kind := range []int{-1, 5, 6, api.MaxKinds, math.MaxInt, math.MinInt} {
		isBoth(t, "a root of no kind", own(), of(kind, 1), 0, api.ErrForm)
	}
}

// P7.1: a kind that is none, anywhere.
func TestNoKind(t *testing.T) {
	for _, kind := range []int{-1, 5, 6, api.MaxKinds, 1 << 32, math.MaxInt, math.MinInt} {
		isBoth(t, "the parent's kids don't fit", own(), n(1, of(bed, 2, of(plant, 3), of(kind, 4))), 1, api.ErrForm)
	}
	isBoth(t, "twice ahead of it", own(), n(1, of(bed, 2, of(plant, 1), of(9, 4))), 1, api.ErrForm)
}

// P7.1: ids that may be, and such as may not.
func TestIds(t *testing.T) {
	for id, ok := range map[int]bool{
		1: true, 2: true, api.MaxNumber - 1: true, api.MaxNumber: true, 1 << 32: true, 1<<32 + 1: true,
		0: false, -1: false, -2: false, api.MaxNumber + 1: false, api.MaxNumber + 2: false, -api.MaxNumber: false,
		math.MaxInt: false, math.MinInt: false, 1<<51 + 1: false, 1<<62 + 1: false,
	} {
		kid, last, e := 0, 0, api.OK
		if !ok {
			kid, last, e = 2, 5, api.ErrForm
		}
		isBoth(t, "of the root", lists(), n(id), 0, e)
		isBoth(t, "of a kid", lists(), n(99, n(98), n(id), n(97)), kid, e)
		isBoth(t, "of the last one", lists(), n(99, n(98, n(97)), n(96, n(95), n(id))), last, e)
	}
}

// P7.1: an id that is there twice, near and far apart: the later one is at fault.
func TestTwice(t *testing.T) {
	for what, c := range map[string]struct {
		x  api.Node
		at int
	}{
		"kid of the root":           {n(1, n(1)), 1},
		"grandchild of the root":    {n(1, n(2, n(1))), 2},
		"side by side":              {n(1, n(2), n(3), n(3)), 3},
		"the first and the last":    {n(1, n(2), n(3), n(4, n(5), n(2))), 5},
		"cousins":                   {n(1, n(2, n(3)), n(4, n(3))), 4},
		"the deep one comes first":  {n(1, n(2, n(3, n(4))), n(4)), 4},
		"the kid ahead of the next": {n(1, n(2, n(3)), n(2)), 3},
		"three of one":              {n(1, n(2), n(2), n(2)), 2},
		"two pairs, one within":     {n(1, n(2), n(3), n(3), n(2)), 3},
		"two pairs, crossed":        {n(1, n(2), n(3), n(2), n(3)), 3},
		"two pairs, apart":          {n(1, n(2, n(2)), n(3, n(3))), 2},
		"great ones":                {n(1, n(api.MaxNumber), n(3), n(api.MaxNumber)), 3},
	} {
		isBoth(t, what, lists(), c.x, c.at, api.ErrForm)
	}
	for first := range api.MaxNodes {
		for _, second := range []int{first + 1, api.MaxNodes - 1} {
			if second <= first || second >= api.MaxNodes {
				continue
			}
			x := bush(api.MaxNodes)
			ids := pointers(&x)
			ids[second].Id = ids[first].Id
			isBoth(t, "far apart", lists(), x, second, api.ErrForm)
		}
	}
}

// P7.1: texts that may be, and such as may not.
func TestTexts(t *testing.T) {
	for _, size := range []int{0, 1, api.MaxWord - 1, api.MaxWord, api.MaxWord + 1, 1000, 1 << 20} {
		text := strings.Repeat("t", size)
		at, e := 0, api.OK
		if size > api.MaxWord {
			at, e = 3, api.ErrForm
		}
		isBoth(t, "a text of a kind that may have one", own(), n(1, of(bed, 2, of(plant, 3), of(bed, 4, said(of(plant, 5), "x"))), of(path, 6)), 0, api.OK)
		isBoth(t, "a text of a kind that may have one", own(), n(1, of(bed, 2, of(plant, 3), said(of(bed, 4, of(plant, 5)), text)), of(path, 6)), at, e)
		if size > 0 {
			at, e = 5, api.ErrForm
		}
		isBoth(t, "a text of a kind that may have none", own(), n(1, of(bed, 2, of(plant, 3), of(bed, 4, of(plant, 5))), said(of(path, 6), text)), at, e)
	}
	isBoth(t, "any bytes", lists(), n(1, said(n(2), "\x00\xff\"\n")), 0, api.OK)
	isBoth(t, "bytes count, not letters", lists(), n(1, said(n(2), strings.Repeat("ü", api.MaxWord/2))), 0, api.OK)
	isBoth(t, "bytes count, not letters", lists(), n(1, said(n(2), strings.Repeat("ü", api.MaxWord/2)+"x")), 1, api.ErrForm)
}

// P7.1: kids that fit just, too few of them and too many.
func TestKids(t *testing.T) {
	for _, bounds := range [][2]int{{0, 0}, {0, 1}, {1, 1}, {2, 5}, {3, 3}, {0, api.MaxMany}, {150, 150}} {
		g := api.Grammar{Kinds: []api.Kind{
			{Name: "root", Slots: []api.Slot{{Kinds: []int{1, 2}, Most: 9}}},
			{Name: "many", Slots: []api.Slot{{Kinds: []int{2}, Least: bounds[0], Most: bounds[1]}}},
			{Name: "leaf"},
		}}
		for count := range 160 {
			x := n(1, of(2, 2), of(1, 3))
			for i := range count {
				x.Kids[1].Kids = append(x.Kids[1].Kids, of(2, 4+i))
			}
			at, e := 2, api.ErrForm
			if count >= bounds[0] && count <= bounds[1] {
				at, e = 0, api.OK
			}
			isBoth(t, "so many kids", g, x, at, e)
		}
	}
}

// P7.1: where more than one node is at fault, or one has more than one fault, the first node in the walk is told.
func TestFirst(t *testing.T) {
	long := strings.Repeat("t", api.MaxWord+1)
	for what, c := range map[string]struct {
		x  api.Node
		at int
	}{
		"an id, then a text":                {n(1, n(0), said(n(2), long)), 1},
		"a text, then an id":                {n(1, said(n(2), long), n(0)), 1},
		"twice, then an id":                 {n(1, n(2), n(2), n(0)), 2},
		"an id, then twice":                 {n(1, n(2), n(0), n(2)), 2},
		"below ahead of beside":             {n(1, n(2, n(3, n(0))), said(n(4), long)), 3},
		"beside ahead of below the next":    {n(1, said(n(2), long), n(3, n(0))), 1},
		"the parent ahead of its kid":       {n(1, said(n(2, n(0)), long), n(3)), 1},
		"the root ahead of all":             {n(0, n(0), n(0)), 0},
		"a text and an id":                  {n(1, n(2), said(n(-1), long), n(3)), 2},
		"twice, and a text":                 {n(1, n(2), said(n(2), long), n(3)), 2},
		"twice, and a kind; the parent's":   {n(1, n(2), of(1, 2)), 0},
		"the root's kids, and the kid's id": {n(1, of(1, 0)), 0},
		"0 twice":                           {n(1, n(2), n(0), n(0)), 2},
		"the id of one that is at fault":    {n(1, n(2, said(n(3), long)), n(3)), 2},
	} {
		isBoth(t, what, lists(), c.x, c.at, api.ErrForm)
	}
	isBoth(t, "kids that don't fit below kids that do", own(), n(1, of(bed, 2, of(plant, 3), of(bed, 4)), of(bed, 5)), 3, api.ErrForm)
	isBoth(t, "a row that doesn't fit, ahead of its kids' ids", own(), n(1, of(bed, 2, of(plant, 1), of(plant, 1)), of(path, 3)), 1, api.ErrForm)
	isTree(t, "another root's kind, ahead of all", own(), of(stone, 0, of(bed, 0)), 0, api.ErrForm)
}
