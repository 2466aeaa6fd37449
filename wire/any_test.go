package wire_test

import (
	"bytes"
	"math"
	"math/rand"
	"reflect"
	"slices"
	"strings"
	"testing"

	"allotment/api"
	"allotment/sums"
	"allotment/tree"
	"allotment/wire"
)

// mayTree tells by the chapter's words whether a tree may be sent.
func mayTree(x api.Node) bool {
	nodes, ok := 0, true
	var down func(x api.Node, depth int)
	down = func(x api.Node, depth int) {
		nodes++
		ok = ok && depth <= api.MaxDepth && x.Id >= 1 && x.Id <= api.MaxNumber && x.Kind >= 0 && x.Kind <= api.MaxKinds && len(x.Text) <= api.MaxWord
		for _, kid := range x.Kids {
			down(kid, depth+1)
		}
	}
	down(x, 1)
	return ok && nodes <= api.MaxNodes
}

// mayStep tells by the chapter's words whether a step may be sent.
func mayStep(s api.Step) bool {
	names := map[int8]string{api.StInsert: "Parent Place Sub", api.StDelete: "Id", api.StMove: "Id Parent Place", api.StText: "Id Text"}[s.Op]
	fits := func(name string, holds, unset bool) bool {
		if slices.Contains(strings.Fields(names), name) {
			return holds
		}
		return unset
	}
	return names != "" &&
		fits("Id", s.Id >= 1 && s.Id <= api.MaxNumber, s.Id == 0) &&
		fits("Parent", s.Parent >= 1 && s.Parent <= api.MaxNumber, s.Parent == 0) &&
		fits("Place", s.Place >= 0 && s.Place <= api.MaxNumber, s.Place == 0) &&
		fits("Text", len(s.Text) <= api.MaxWord, s.Text == "") &&
		fits("Sub", mayTree(s.Sub), reflect.DeepEqual(tidyTree(s.Sub), api.Node{}))
}

// maySteps tells by the words of this chapter and of chapter 11 whether steps may be sent.
func maySteps(l []api.Step) bool {
	nodes := 0
	for _, s := range l {
		if !mayStep(s) {
			return false
		}
		if s.Op == api.StInsert {
			nodes += tree.Count(s.Sub)
		}
	}
	return len(l) <= api.MaxSteps && nodes <= api.MaxNodes
}

// mayMessage tells by the chapter's words whether a message may be.
func mayMessage(m api.Message) bool {
	if _, ok := table()[m.Kind]; !ok {
		return false
	}
	for _, name := range counted() {
		least, most := bounds(m.Kind, name)
		if n := int(number(&m, name).Int()); n < least || n > most {
			return false
		}
	}
	own := fields(m.Kind)
	if slices.Contains(own, "Steps") && !maySteps(m.Steps) || !slices.Contains(own, "Steps") && len(m.Steps) > 0 {
		return false
	}
	if slices.Contains(own, "Tree") {
		return mayTree(m.Tree)
	}
	return reflect.DeepEqual(tidyTree(m.Tree), api.Node{})
}

// anyNumber gives some number from least to most, mostly at their ends, and now and then another one.
func anyNumber(r *rand.Rand, least, most, wrong int) int {
	if r.Intn(wrong) == 0 {
		return []int{0, -1, 1, least - 1, most + 1, math.MinInt, math.MaxInt, 1 << 32, r.Int()}[r.Intn(9)]
	}
	switch r.Intn(4) {
	case 0:
		return least
	case 1:
		return most
	}
	return least + r.Intn(most-least+1)
}

// anyText gives some text, now and then one that is too long.
func anyText(r *rand.Rand, wrong int) string {
	size := r.Intn(4)
	switch {
	case r.Intn(wrong) == 0:
		size = api.MaxWord + 1 + r.Intn(9)
	case r.Intn(8) == 0:
		size = api.MaxWord
	}
	b := make([]byte, size)
	r.Read(b)
	return string(b)
}

// anyTree gives some tree of so many nodes at the most, now and then with something wrong.
func anyTree(r *rand.Rand, most, wrong int) api.Node {
	left := most
	var down func(depth int) api.Node
	down = func(depth int) api.Node {
		left--
		x := api.Node{Id: anyNumber(r, 1, api.MaxNumber, wrong), Kind: anyNumber(r, 0, api.MaxKinds, wrong), Text: anyText(r, wrong)}
		for left > 0 && depth < api.MaxDepth+2 && r.Intn(5) < 3 {
			x.Kids = append(x.Kids, down(depth+1))
		}
		if r.Intn(8) == 0 && x.Kids == nil {
			x.Kids = []api.Node{}
		}
		return x
	}
	return down(1)
}

// anyStep gives some step, now and then with something wrong.
func anyStep(r *rand.Rand, wrong int) api.Step {
	id := func() int { return anyNumber(r, 1, api.MaxNumber, wrong) }
	place := func() int { return anyNumber(r, 0, api.MaxNumber, wrong) }
	var s api.Step
	switch r.Intn(4) {
	case 0:
		s = insert(id(), place(), anyTree(r, 1+r.Intn(8), wrong))
	case 1:
		s = remove(id())
	case 2:
		s = move(id(), id(), place())
	case 3:
		s = write(id(), anyText(r, wrong))
	}
	if r.Intn(wrong) == 0 {
		s.Op = int8(r.Intn(256))
	}
	for _, set := range []func(){func() { s.Id = r.Intn(3) }, func() { s.Parent = r.Intn(3) }, func() { s.Place = r.Intn(3) }, func() { s.Text = "x" }, func() { s.Sub.Id = r.Intn(3) }, func() { s.Sub.Kids = make([]api.Node, r.Intn(2)) }} {
		if r.Intn(2*wrong) == 0 {
			set()
		}
	}
	return s
}

// anySteps gives some steps, now and then with something wrong.
func anySteps(r *rand.Rand, wrong int) []api.Step {
	count := r.Intn(6)
	switch {
	case r.Intn(20) == 0:
		count = r.Intn(api.MaxSteps + 1)
	case r.Intn(wrong) == 0:
		count = api.MaxSteps + r.Intn(3)
	}
	var l []api.Step
	for range count {
		l = append(l, anyStep(r, wrong))
	}
	if r.Intn(40) == 0 {
		l = append(l, insert(1, 0, anyTree(r, api.MaxNodes, wrong)))
	}
	return l
}

// anyMessage gives some message, now and then with something wrong.
func anyMessage(r *rand.Rand) api.Message {
	m := api.Message{Kind: first + int8(r.Intn(int(last)))}
	wrong := []int{10, 100, 1 << 40}[r.Intn(3)]
	for _, name := range counted() {
		if least, most := bounds(m.Kind, name); most > 0 {
			number(&m, name).SetInt(int64(anyNumber(r, least, most, wrong)))
		}
	}
	if slices.Contains(fields(m.Kind), "Steps") {
		m.Steps = anySteps(r, wrong)
	}
	if slices.Contains(fields(m.Kind), "Tree") {
		m.Tree = anyTree(r, 1+r.Intn(api.MaxNodes+20), wrong)
	}
	if r.Intn(wrong) == 0 {
		m.Kind = int8(r.Intn(256))
	}
	if r.Intn(wrong) == 0 {
		number(&m, counted()[r.Intn(10)]).SetInt(int64(r.Intn(5) - 2))
	}
	if r.Intn(2*wrong) == 0 {
		m.Steps, m.Tree = anySteps(r, wrong), anyTree(r, 3, wrong)
	}
	return m
}

// P14.1 to P14.3: any messages, by the chapter's words.
func TestAnyMessage(t *testing.T) {
	r := rand.New(rand.NewSource(1))
	mays, steps := map[int8]int{}, 0
	nots := map[int8]int{}
	for range 20_000 {
		m := anyMessage(r)
		if mayMessage(m) {
			mays[m.Kind]++
			sent(t, "any", m)
		} else {
			nots[m.Kind]++
			refused(t, "any", m, false)
		}
		if wire.Tree(m.Tree) != mayTree(m.Tree) {
			t.Error("the tree:", m.Tree)
		}
		for _, s := range m.Steps {
			steps++
			if wire.Step(s) != mayStep(s) {
				t.Error("the step:", s)
			}
		}
	}
	for kind := first; kind <= last; kind++ {
		if mays[kind] < 500 || nots[kind] < 100 || steps < 5000 {
			t.Error("that tells little:", kind, mays[kind], nots[kind], steps)
		}
	}
}

// turned gives bytes with some of them other ones, gone, or come.
func turned(r *rand.Rand, own []byte) []byte {
	own = slices.Clone(own)
	for range 1 + r.Intn(3) {
		at := r.Intn(len(own))
		switch r.Intn(8) {
		case 0:
			own = slices.Delete(own, at, min(len(own), at+1+r.Intn(20)))
		case 1:
			own = slices.Insert(own, at, make([]byte, 1+r.Intn(20))...)
		case 2:
			own = append(own[:at:at], byte(r.Intn(256)))
		case 3:
			own[at] = byte(r.Intn(256))
		default:
			own[at] ^= byte(1 + r.Intn(3))
		}
		if len(own) == 0 {
			own = []byte{9}
		}
	}
	return own
}

// P14.2, P14.3: any bytes that are sealed, by the chapter's words: a message whose bytes they are, or an error and where.
func TestAnyBytes(t *testing.T) {
	r := rand.New(rand.NewSource(2))
	counts := map[string]int{}
	for range 30_000 {
		m := anyMessage(r)
		if _, ok := table()[m.Kind]; !ok {
			continue
		}
		own := turned(r, raw(m))
		b := sums.Seal(own)
		if _, ok := table()[int8(own[0])]; !ok {
			counts["no kind"]++
			unread(t, "no kind", b, 0, api.ErrWire)
			continue
		}
		want, at, e := read(own)
		switch {
		case e != api.OK:
			counts["no bytes"]++
			unread(t, "no bytes", b, at, e)
		case !mayMessage(want):
			counts["may not be"]++
			unread(t, "may not be", b, 0, api.ErrWire)
		default:
			counts["read"]++
			sent(t, "read", want)
			if again, e := wire.Bytes(want); e != api.OK || !bytes.Equal(again, b) {
				t.Errorf("%v: %v, %v; want %v", want, again, e, b)
			}
		}
	}
	for _, what := range []string{"no kind", "no bytes", "may not be", "read"} {
		if counts[what] < 300 {
			t.Error("that tells little:", counts)
		}
	}
}

// P14.3: any bytes at all make Read tell an error.
func TestAnyNoise(t *testing.T) {
	r := rand.New(rand.NewSource(3))
	for range 20_000 {
		b := make([]byte, r.Intn(200))
		r.Read(b)
		if len(b) > 0 {
			b[0] = byte(r.Intn(int(last) + 2))
		}
		unread(t, "noise", b, 0, api.ErrWire)
		if m, at, e := wire.Read(sums.Seal(b)); e != api.OK && (e != api.ErrWire || at > len(b) || !reflect.DeepEqual(m, api.Message{})) {
			t.Errorf("%v: %v, %d, %v", b, m, at, e)
		}
	}
}

// P14.1: Same, by what can be seen of any two, mostly such as differ little.
func TestAnySame(t *testing.T) {
	r := rand.New(rand.NewSource(4))
	alikes, others := 0, 0
	for range 20_000 {
		seed := r.Int63()
		a, b := anyMessage(rand.New(rand.NewSource(seed))), anyMessage(rand.New(rand.NewSource(seed)))
		switch r.Intn(4) {
		case 0:
			number(&b, counted()[r.Intn(10)]).SetInt(int64(r.Intn(3)))
		case 1:
			if len(b.Steps) > 0 {
				b.Steps[r.Intn(len(b.Steps))] = anyStep(r, 20)
			}
		case 2:
			b.Tree = tidyTree(b.Tree)
		case 3:
			b.Tree.Kids = append(b.Tree.Kids[:len(b.Tree.Kids):len(b.Tree.Kids)], make([]api.Node, r.Intn(2))...)
		}
		want := alike(a, b)
		if want {
			alikes++
		} else {
			others++
		}
		same(t, "any", a, b, want)
	}
	if alikes < 2000 || others < 2000 {
		t.Error("that tells little:", alikes, others)
	}
}
