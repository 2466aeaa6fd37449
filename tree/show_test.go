package tree_test

import (
	"math"
	"slices"
	"strconv"
	"strings"
	"testing"

	"allotment/api"
	"allotment/tree"
)

// P6.2: trees as texts, by hand.
func TestShow(t *testing.T) {
	for want, x := range map[string]api.Node{
		`0:0`:                                 {},
		`7:2`:                                 {Id: 7, Kind: 2, Kids: []api.Node{}},
		`-7:-2"-1"`:                           {Id: -7, Kind: -2, Text: "-1"},
		`10:100"a b"`:                         {Id: 10, Kind: 100, Text: "a b"},
		`1:0(2:0)`:                            node(1, node(2)),
		`1:0(2:0,3:0)`:                        node(1, node(2), node(3)),
		`1:0(2:0(3:0(4:0)))`:                  node(1, node(2, node(3, node(4)))),
		`1:0(2:0(3:0(4:0)),5:0)`:              node(1, node(2, node(3, node(4))), node(5)),
		`1:0(2:0(3:0(4:0),5:0),6:0(7:0),8:0)`: node(1, node(2, node(3, node(4)), node(5)), node(6, node(7)), node(8)),
		`1:0"(2:0)"`:                          {Id: 1, Text: "(2:0)"},
		`1:0"\","`:                            {Id: 1, Text: "\","},
		`1:0"\\"`:                             {Id: 1, Text: "\\"},
		`1:0"\\\""`:                           {Id: 1, Text: "\\\""},
		`1:0"\"\""`:                           {Id: 1, Text: "\"\""},
		`1:0"a"(2:0"b",3:0"\"),4:0\"")`:       {Id: 1, Text: "a", Kids: []api.Node{{Id: 2, Text: "b"}, {Id: 3, Text: "\"),4:0\""}}},
		"1:0\"\n\t\x00\xff\xc3\u00fc\u2028\"": {Id: 1, Text: "\n\t\x00\xff\xc3\u00fc\u2028"},
		`9223372036854775807:-9223372036854775808`: {Id: math.MaxInt, Kind: math.MinInt},
		richShown: rich(),
	} {
		if s := tree.Show(x); s != want {
			t.Errorf("%s; want %s", s, want)
		}
	}
	x := rich()
	tree.Show(x)
	untouched(t, "Show", x)
}

// plainlyShown gives a tree as a text by the chapter's words.
func plainlyShown(x api.Node) string {
	s := strconv.Itoa(x.Id) + ":" + strconv.Itoa(x.Kind)
	if x.Text != "" {
		s += `"` + strings.ReplaceAll(strings.ReplaceAll(x.Text, `\`, `\\`), `"`, `\"`) + `"`
	}
	if len(x.Kids) == 0 {
		return s
	}
	var kids []string
	for _, kid := range x.Kids {
		kids = append(kids, plainlyShown(kid))
	}
	return s + "(" + strings.Join(kids, ",") + ")"
}

// P6.2: of any trees.
func TestShowPlainly(t *testing.T) {
	for what, x := range ordinary() {
		if s, want := tree.Show(x), plainlyShown(x); s != want {
			t.Errorf("%s: %s; want %s", what, s, want)
		}
	}
}

// near gives many small trees, no two the same, with texts that look like parts of other trees' texts.
func near() []api.Node {
	var ones []api.Node
	for _, id := range []int{1, 11, -1} {
		for _, kind := range []int{0, 1, -1} {
			for _, text := range []string{"", "0", "\"", "\\", "\\\"", "\"\\", "\"(1:0)", "\",1:0", "(1:0)", ",1:0", "1:0", ")", "\")", "a\"(1:0\"a"} {
				ones = append(ones, api.Node{Id: id, Kind: kind, Text: text})
			}
		}
	}
	few := slices.DeleteFunc(slices.Clone(ones), func(x api.Node) bool { return x.Id == -1 || x.Kind != 0 || len(x.Text) > 3 })
	all := slices.Clone(ones)
	for _, x := range few {
		for _, y := range few {
			all = append(all, api.Node{Id: x.Id, Text: x.Text, Kids: []api.Node{y}})
			for _, z := range few {
				all = append(all, api.Node{Id: x.Id, Text: x.Text, Kids: []api.Node{y, z}})
				all = append(all, api.Node{Id: x.Id, Text: x.Text, Kids: []api.Node{{Id: y.Id, Text: y.Text, Kids: []api.Node{z}}}})
			}
		}
	}
	return all
}

// P6.4: of two trees that are not the same neither Show nor Bytes is the same.
func TestNoTwoAlike(t *testing.T) {
	shown, put := map[string]api.Node{}, map[string]api.Node{}
	for _, x := range near() {
		if y, there := shown[tree.Show(x)]; there {
			t.Fatalf("both are shown as %s: %v, %v", tree.Show(x), x, y)
		}
		if y, there := put[string(tree.Bytes(x))]; there {
			t.Fatalf("both are put as %v: %v, %v", tree.Bytes(x), x, y)
		}
		shown[tree.Show(x)], put[string(tree.Bytes(x))] = x, x
	}
	if len(shown) < 5000 {
		t.Errorf("%d trees: that tells little", len(shown))
	}
	all := near()
	for i := 0; i < len(all); i += 499 {
		for k, y := range all {
			if tree.Same(all[i], y) != (i == k) {
				t.Fatal("Same:", all[i], y)
			}
		}
	}
}
