package net_test

import (
	"math"
	"math/rand"
	"reflect"
	"runtime/debug"
	"slices"
	"testing"

	"allotment/api"
	"allotment/net"
)

const most = 1024

// kept is what a net should have at a place.
type kept struct {
	m    api.Message
	held bool
}

// to gives a message to that address with that number.
func to(address, number int) api.Message {
	return api.Message{Kind: api.MsgDone, From: 1, To: address, Number: number}
}

// rich gives a message with all that one can have, in memory of its own.
func rich(number int) api.Message {
	below := func(id int) api.Node {
		return api.Node{Id: id, Kind: 1, Text: "a", Kids: []api.Node{{Id: id + 1, Kids: []api.Node{{Id: id + 2, Text: "b"}, {Id: id + 3}}}, {Id: id + 4}}}
	}
	return api.Message{
		Kind: api.MsgCommit, From: 2, To: 3, Boot: 4, Server: 5, Number: number, Node: 6, Lease: 7, Epoch: 8, Version: 9, E: api.ErrLease,
		Steps: []api.Step{
			{Op: api.StInsert, Parent: 1, Place: 2, Sub: below(10)},
			{Op: api.StText, Id: 3, Text: "c"},
			{Op: api.StInsert, Parent: 4, Sub: below(20)},
		},
		Tree: below(30),
	}
}

// send sends what has to be taken.
func send(t *testing.T, n *net.Net, ms ...api.Message) {
	t.Helper()
	for _, m := range ms {
		if e := n.Send(m); e != api.OK {
			t.Fatalf("Send of %v: %v", m, e)
		}
	}
}

// hold holds messages that are there.
func hold(t *testing.T, n *net.Net, places ...int) {
	t.Helper()
	for _, k := range places {
		if e := n.Hold(k); e != api.OK {
			t.Fatalf("Hold %d: %v", k, e)
		}
	}
}

// is checks an answer.
func is(t *testing.T, what string, e, want api.Errno) {
	t.Helper()
	if e != want {
		t.Errorf("%s: %v; want %v", what, e, want)
	}
}

// shows checks all that a net tells.
func shows(t *testing.T, what string, n *net.Net, want ...kept) {
	t.Helper()
	if n.Len() != len(want) {
		t.Fatalf("%s: %d messages; want %d", what, n.Len(), len(want))
	}
	first := slices.IndexFunc(want, func(x kept) bool { return !x.held })
	if k, ok := n.First(); ok != (first >= 0) || k != max(first, 0) {
		t.Errorf("%s: First %d, %v; want %d", what, k, ok, first)
	}
	for k, x := range want {
		if m, held, e := n.Look(k); e != api.OK || held != x.held || !reflect.DeepEqual(m, x.m) {
			t.Errorf("%s: Look %d: %v, %v, %v; want %v", what, k, m, held, e, x)
		}
	}
	for _, k := range []int{-1, len(want)} {
		if m, held, e := n.Look(k); e != api.ErrNone || held || !reflect.DeepEqual(m, api.Message{}) {
			t.Errorf("%s: Look %d: %v, %v, %v; want none", what, k, m, held, e)
		}
	}
	tells(t, what, n.All(), want)
}

// tells checks what All gave.
func tells(t *testing.T, what string, all func(func(int, api.Message) bool), want []kept) {
	t.Helper()
	at := 0
	for k, m := range all {
		if k != at || k >= len(want) || !reflect.DeepEqual(m, want[k].m) {
			t.Fatalf("%s: All: %d, %v as the %d-th of %v", what, k, m, at, want)
		}
		at++
	}
	if at != len(want) {
		t.Errorf("%s: All: %d messages; want %d", what, at, len(want))
	}
}

func TestNew(t *testing.T) {
	for what, n := range map[string]*net.Net{"New": net.New(), "the zero Net": new(net.Net)} {
		shows(t, what, n)
		if n.Free() != 0 || n.Clear(0) != 0 {
			t.Error(what, ": messages of nobody")
		}
		send(t, n, rich(1))
		shows(t, what, n, kept{m: rich(1)})
		shows(t, "another one", net.New())
	}
}

// The chapter's examples.
func TestExamples(t *testing.T) {
	n := net.New()
	send(t, n, to(1, 1), to(2, 2))
	hold(t, n, 0)
	if k, ok := n.First(); k != 1 || !ok {
		t.Error("First:", k, ok)
	}
	if m, e := n.Take(0); e != api.OK || m.Number != 1 {
		t.Error("Take:", m, e)
	}
	n = net.New()
	send(t, n, to(3, 1))
	is(t, "Double", n.Double(0), api.OK)
	if c := n.Clear(3); c != 2 {
		t.Error("Clear:", c)
	}
}

// P2.1: what is sent is the last one, free, whole.
func TestSend(t *testing.T) {
	n := net.New()
	var want []kept
	for _, m := range []api.Message{
		{}, rich(1), {From: api.MaxClients}, {To: api.MaxClients}, {From: api.MaxClients, To: api.MaxClients}, rich(1),
		{Kind: -1, Boot: math.MinInt, Version: math.MaxInt, E: -1}, {Steps: make([]api.Step, api.MaxSteps+1)},
	} {
		hold(t, n, rangeOf(len(want))...)
		for k := range want {
			want[k].held = true
		}
		send(t, n, m)
		want = append(want, kept{m: m})
		shows(t, "sent", n, want...)
	}
}

// rangeOf gives 0 to n - 1.
func rangeOf(n int) []int {
	var l []int
	for k := range n {
		l = append(l, k)
	}
	return l
}

// P2.1: From or To is no address.
func TestSendWrongly(t *testing.T) {
	n := net.New()
	wrong := func() {
		t.Helper()
		for _, a := range []int{-1, math.MinInt, api.MaxClients + 1, 256, 1 << 32, math.MaxInt} {
			is(t, "From no address", n.Send(api.Message{From: a}), api.ErrArg)
			is(t, "To no address", n.Send(api.Message{To: a}), api.ErrArg)
			is(t, "neither an address", n.Send(api.Message{From: a, To: a}), api.ErrArg)
		}
	}
	wrong()
	shows(t, "refused", n)
	for k := range most {
		send(t, n, to(0, k))
	}
	wrong() // full, too: that comes second
	is(t, "full", n.Send(api.Message{}), api.ErrFull)
	if n.Len() != most {
		t.Errorf("%d messages", n.Len())
	}
}

// P2.1 and P2.2: 1024, and not one more; then there is room again.
func TestFull(t *testing.T) {
	n := net.New()
	var want []kept
	for k := range most - 1 {
		send(t, n, to(k%3, k))
		want = append(want, kept{m: to(k%3, k)})
	}
	is(t, "Double, room for one", n.Double(0), api.OK)
	want = append(want, kept{m: to(0, 0)})
	for range 2 {
		is(t, "Send", n.Send(api.Message{}), api.ErrFull)
		is(t, "Double", n.Double(0), api.ErrFull)
		is(t, "Double the last", n.Double(most-1), api.ErrFull)
		is(t, "Double none", n.Double(-1), api.ErrNone)
		is(t, "Double none behind the last", n.Double(most), api.ErrNone)
	}
	shows(t, "full", n, want...)
	if m, e := n.Take(most - 1); e != api.OK || m.Number != 0 {
		t.Error(m, e)
	}
	send(t, n, to(4, 9))
	is(t, "Send", n.Send(api.Message{}), api.ErrFull)
	if c := n.Clear(4); c != 1 {
		t.Errorf("%d to 4", c)
	}
	is(t, "Double", n.Double(most-2), api.OK)
	is(t, "Double", n.Double(0), api.ErrFull)
	want[most-1] = want[most-2]
	shows(t, "full again", n, want...)
}

// P2.1, P2.2: there is no such place.
func TestNone(t *testing.T) {
	n := net.New()
	var want []kept
	for size := range 3 {
		for _, k := range []int{-1, math.MinInt, size, size + 1, 1 << 32, math.MaxInt} {
			if m, held, e := n.Look(k); e != api.ErrNone || held || !reflect.DeepEqual(m, api.Message{}) {
				t.Errorf("Look %d of %d: %v, %v, %v", k, size, m, held, e)
			}
			if m, e := n.Take(k); e != api.ErrNone || !reflect.DeepEqual(m, api.Message{}) {
				t.Errorf("Take %d of %d: %v, %v", k, size, m, e)
			}
			is(t, "Double", n.Double(k), api.ErrNone)
			is(t, "Hold", n.Hold(k), api.ErrNone)
		}
		shows(t, "behind what was none", n, want...)
		send(t, n, rich(size))
		want = append(want, kept{m: rich(size)})
	}
}

// P2.1: left early, gone over again, and while the net changes.
func TestAll(t *testing.T) {
	n := net.New()
	send(t, n, to(1, 0), rich(1), to(1, 2))
	hold(t, n, 1)
	want := []kept{{m: to(1, 0)}, {m: rich(1)}, {m: to(1, 2)}}
	all := n.All()
	for leave := range 3 {
		got := 0
		for k, m := range all {
			if k != got || m.Number != k {
				t.Errorf("%d, %v", k, m)
			}
			if k == leave {
				break
			}
			got++
		}
		if got != leave {
			t.Errorf("left at %d: %d ahead of it", leave, got)
		}
	}
	for range 2 {
		tells(t, "again", all, want)
	}
	for k := range n.All() {
		if _, e := n.Take(0); e != api.OK {
			t.Fatal(k, e)
		}
		send(t, n, to(5, 5))
	}
	shows(t, "taken meanwhile", n, kept{m: to(5, 5)}, kept{m: to(5, 5)}, kept{m: to(5, 5)})
	tells(t, "as it was", all, want)
	n.Clear(5)
	tells(t, "as it was, cleared", all, want)
	tells(t, "now", n.All(), nil)
	none := n.All()
	send(t, n, to(6, 6))
	tells(t, "as it was, empty", none, nil)
}

// P2.2: a message at each place, held or not.
func TestTake(t *testing.T) {
	for k := range 4 {
		for held := range 4 {
			n := net.New()
			var want []kept
			for i := range 4 {
				send(t, n, rich(i))
				want = append(want, kept{rich(i), i == held})
			}
			hold(t, n, held)
			if m, e := n.Take(k); e != api.OK || !reflect.DeepEqual(m, rich(k)) {
				t.Errorf("Take %d: %v, %v", k, m, e)
			}
			shows(t, "taken", n, slices.Delete(want, k, k+1)...)
		}
	}
}

// P2.2: the copy is the last one and free, whatever it is a copy of; that one stays.
func TestDouble(t *testing.T) {
	n := net.New()
	send(t, n, rich(0), rich(1), rich(2))
	hold(t, n, 1)
	want := []kept{{m: rich(0)}, {rich(1), true}, {m: rich(2)}}
	for _, k := range []int{1, 0, 2, 3, 6} {
		is(t, "Double", n.Double(k), api.OK)
		want = append(want, kept{m: want[k].m})
		shows(t, "doubled", n, want...)
	}
	hold(t, n, 3)
	want[3].held = true
	shows(t, "one of two held", n, want...)
	if m, e := n.Take(1); e != api.OK || m.Number != 1 {
		t.Error(m, e)
	}
	shows(t, "one of two taken", n, slices.Delete(want, 1, 2)...)
}

// P2.2 and P2.3: Hold, First and Free.
func TestHold(t *testing.T) {
	n := net.New()
	send(t, n, to(1, 0), to(2, 1), to(3, 2), to(4, 3))
	want := []kept{{m: to(1, 0)}, {m: to(2, 1)}, {m: to(3, 2)}, {m: to(4, 3)}}
	for i, k := range []int{0, 0, 3, 1, 2, 2} {
		hold(t, n, k)
		want[k].held = true
		shows(t, "held", n, want...)
		if i == 5 {
			if _, ok := n.First(); ok {
				t.Error("a free one, and all are held")
			}
		}
	}
	if c := n.Free(); c != 4 {
		t.Errorf("%d were held", c)
	}
	for k := range want {
		want[k].held = false
	}
	shows(t, "free", n, want...)
	if c := n.Free(); c != 0 {
		t.Errorf("%d were held behind Free", c)
	}
	hold(t, n, 2, 2)
	if c := n.Free(); c != 1 {
		t.Errorf("%d were held; one was, twice", c)
	}
	shows(t, "free again", n, want...)
}

// P2.3: what is cleared is what goes to the address, not what comes from it; marks go with their messages.
func TestClear(t *testing.T) {
	for _, address := range []int{0, 1, 4, api.MaxClients} {
		n := net.New()
		var want []kept
		gone := 0
		for k := range 12 {
			m := api.Message{From: address, To: []int{0, 1, 4, api.MaxClients}[k/2%4], Number: k}
			send(t, n, m)
			if k%3 == 0 {
				hold(t, n, k)
			}
			if m.To == address {
				gone++
			} else {
				want = append(want, kept{m, k%3 == 0})
			}
		}
		for _, other := range []int{-1, 2, api.MaxClients + 1, math.MinInt, math.MaxInt} {
			if c := n.Clear(other); c != 0 || n.Len() != 12 {
				t.Errorf("Clear %d: %d", other, c)
			}
		}
		if c := n.Clear(address); c != gone {
			t.Errorf("Clear %d: %d; want %d", address, c, gone)
		}
		shows(t, "cleared", n, want...)
		if c := n.Clear(address); c != 0 {
			t.Errorf("Clear %d once more: %d", address, c)
		}
		send(t, n, to(address, 12))
		shows(t, "sent to it again", n, append(want, kept{m: to(address, 12)})...)
	}
}

// P2.3: what was held and is cleared or taken is not free'd any more.
func TestMarksThatAreGone(t *testing.T) {
	n := net.New()
	send(t, n, to(1, 0), to(2, 1), to(1, 2), to(2, 3))
	hold(t, n, 0, 1, 2)
	if c := n.Clear(1); c != 2 {
		t.Errorf("%d cleared", c)
	}
	shows(t, "cleared", n, kept{to(2, 1), true}, kept{m: to(2, 3)})
	send(t, n, to(1, 4), to(1, 5))
	shows(t, "sent where held ones were", n, kept{to(2, 1), true}, kept{m: to(2, 3)}, kept{m: to(1, 4)}, kept{m: to(1, 5)})
	if m, e := n.Take(0); e != api.OK || m.Number != 1 {
		t.Error(m, e)
	}
	if c := n.Free(); c != 0 {
		t.Errorf("%d were held", c)
	}
}

// spoil writes over all memory of a message, spare room included.
func spoil(m *api.Message) {
	var nodes func(l []api.Node)
	nodes = func(l []api.Node) {
		l = l[:cap(l)]
		for i := range l {
			nodes(l[i].Kids)
			l[i] = api.Node{Id: -99, Text: "spoilt"}
		}
	}
	l := m.Steps[:cap(m.Steps)]
	for i := range l {
		nodes(l[i].Sub.Kids)
		l[i] = api.Step{Op: -9, Text: "spoilt"}
	}
	nodes(m.Tree.Kids)
}

// P2.1, P2.2 and R4: what is told shares no memory with what was handed in, nor with what is told elsewhere.
func TestMemory(t *testing.T) {
	n := net.New()
	want := []kept{{m: rich(1)}}
	sent := rich(1)
	send(t, n, sent)
	if !reflect.DeepEqual(sent, rich(1)) {
		t.Error("what was handed in is changed:", sent)
	}
	spoil(&sent)
	shows(t, "the sent one spoilt", n, want...)
	all := n.All()
	for range 2 {
		m, _, _ := n.Look(0)
		spoil(&m)
		for _, m := range all {
			spoil(&m)
		}
	}
	shows(t, "what was told spoilt", n, want...)
	tells(t, "told before", all, want)
	is(t, "Double", n.Double(0), api.OK)
	looked, _, _ := n.Look(0)
	m, e := n.Take(0)
	if e != api.OK || !reflect.DeepEqual(m, rich(1)) {
		t.Error(m, e)
	}
	spoil(&m)
	shows(t, "the taken one of two spoilt", n, want...)
	tells(t, "told before", all, want)
	if !reflect.DeepEqual(looked, rich(1)) {
		t.Error("looked at before:", looked)
	}
	m, e = n.Take(0)
	if e != api.OK || !reflect.DeepEqual(m, rich(1)) {
		t.Error(m, e)
	}
	spoil(&m)
	tells(t, "told before", all, want)
}

// R4: what is in spare room, handed in, is neither changed nor told.
func TestSpareRoom(t *testing.T) {
	n := net.New()
	steps, kids := make([]api.Step, 3), make([]api.Node, 3)
	steps[1].Id, kids[1].Id = 7, 7
	send(t, n, api.Message{Steps: steps[:1], Tree: api.Node{Kids: kids[:1]}}, api.Message{Steps: steps[:0], Tree: api.Node{Kids: kids[:0]}})
	for k, m := range n.All() {
		if len(m.Steps) != 1-k || len(m.Tree.Kids) != 1-k {
			t.Error(k, m)
		}
		_ = append(m.Steps, api.Step{Id: 8})
		_ = append(m.Tree.Kids, api.Node{Id: 8})
	}
	if steps[0].Id != 0 || steps[1].Id != 7 || kids[0].Id != 0 || kids[1].Id != 7 {
		t.Error(steps, kids)
	}
}

// R4: what is one list in what was handed in is many lists in what is told.
func TestOneListTwice(t *testing.T) {
	n := net.New()
	grand := []api.Node{{Id: 3}}
	kids := []api.Node{{Id: 1, Kids: grand}, {Id: 2, Kids: grand}}
	send(t, n, api.Message{Steps: []api.Step{{Sub: api.Node{Kids: kids}}, {Sub: api.Node{Kids: kids}}}, Tree: api.Node{Kids: kids}})
	m, _, _ := n.Look(0)
	m.Steps[0].Sub.Kids[0].Kids[0].Id = 9
	m.Steps[0].Sub.Kids[1].Id = 9
	for _, l := range [][]api.Node{m.Steps[1].Sub.Kids, m.Tree.Kids, kids} {
		if l[0].Kids[0].Id != 3 || l[1].Id != 2 || l[1].Kids[0].Id != 3 {
			t.Error(l)
		}
	}
	if m.Steps[0].Sub.Kids[1].Kids[0].Id != 3 {
		t.Error(m.Steps[0])
	}
}

// deep gives a tree of that depth, whose nodes have a leaf on each side of the kid that goes on.
func deep(depth int) api.Node {
	n := api.Node{Id: depth}
	for d := depth - 1; d > 0; d-- {
		n = api.Node{Id: d, Kids: []api.Node{{Id: -1}, n, {Id: -2}}}
	}
	return n
}

// isDeep checks that a tree is what deep gave.
func isDeep(n api.Node, depth int) bool {
	for d := 1; d < depth; d++ {
		if n.Id != d || len(n.Kids) != 3 || n.Kids[0].Id != -1 || n.Kids[2].Id != -2 {
			return false
		}
		n = n.Kids[1]
	}
	return n.Id == depth && len(n.Kids) == 0
}

// R1: trees as deep as they are big, on a stack that doesn't bear as many calls.
func TestDeep(t *testing.T) {
	defer debug.SetMaxStack(debug.SetMaxStack(1 << 20))
	for _, depth := range []int{1, 2, 99, 100, 101, 102, 103, 201, 202, 203, 204, 1000, 100_000} {
		n := net.New()
		big := deep(depth)
		m := api.Message{Steps: []api.Step{{Sub: big}, {Sub: big}}, Tree: big}
		send(t, n, m)
		is(t, "Double", n.Double(0), api.OK)
		m, _, e := n.Look(1)
		is(t, "Look", e, api.OK)
		for p := &m.Tree; ; p = &p.Kids[1] { // so that it tells if it shared memory
			p.Id = 0
			if len(p.Kids) == 0 {
				break
			}
		}
		for k, m := range n.All() {
			if len(m.Steps) != 2 || !isDeep(m.Steps[0].Sub, depth) || !isDeep(m.Steps[1].Sub, depth) || !isDeep(m.Tree, depth) {
				t.Errorf("depth %d, place %d: another tree", depth, k)
			}
		}
		if !isDeep(big, depth) {
			t.Errorf("depth %d: the sent one is changed", depth)
		}
	}
}

// P2.1 to P2.3: of nil.
func TestNil(t *testing.T) {
	var n *net.Net
	for _, k := range []int{0, -1, most} {
		is(t, "Send", n.Send(api.Message{From: k, To: k}), api.ErrNil)
		is(t, "Double", n.Double(k), api.ErrNil)
		is(t, "Hold", n.Hold(k), api.ErrNil)
		if m, held, e := n.Look(k); e != api.ErrNil || held || !reflect.DeepEqual(m, api.Message{}) {
			t.Error("Look:", m, held, e)
		}
		if m, e := n.Take(k); e != api.ErrNil || !reflect.DeepEqual(m, api.Message{}) {
			t.Error("Take:", m, e)
		}
		if n.Clear(k) != 0 {
			t.Error("Clear")
		}
	}
	if k, ok := n.First(); k != 0 || ok || n.Free() != 0 || n.Len() != 0 {
		t.Error("First:", k, ok, n.Free(), n.Len())
	}
	tells(t, "nil", n.All(), nil)
}

// P2.4: any calls, against a row of what was sent and is not gone yet.
func TestAnyCalls(t *testing.T) {
	r := rand.New(rand.NewSource(2))
	for range 50 {
		n := net.New()
		var want []kept
		for number := range 150 {
			k := r.Intn(len(want)+3) - 1
			there := k >= 0 && k < len(want)
			switch r.Intn(10) {
			case 0, 1, 2, 3:
				m := to(r.Intn(api.MaxClients+3)-1, number)
				if n.Send(m) == api.OK {
					want = append(want, kept{m: m})
				} else if m.To >= 0 && m.To <= api.MaxClients {
					t.Fatal("refused:", m)
				}
			case 4:
				if n.Double(k) == api.OK != there {
					t.Fatal("Double", k, len(want))
				}
				if there {
					want = append(want, kept{m: want[k].m})
				}
			case 5, 6:
				m, e := n.Take(k)
				if e == api.OK != there || there && m.Number != want[k].m.Number {
					t.Fatal("Take", k, len(want), m, e)
				}
				if there {
					want = slices.Delete(want, k, k+1)
				}
			case 7:
				if n.Hold(k) == api.OK != there {
					t.Fatal("Hold", k, len(want))
				}
				if there {
					want[k].held = true
				}
			case 8:
				anyFree(t, n, want)
			case 9:
				was := len(want)
				want = slices.DeleteFunc(want, func(x kept) bool { return x.m.To == k })
				if c := n.Clear(k); c != was-len(want) {
					t.Fatal("Clear", k, c)
				}
			}
			shows(t, "any calls", n, want...)
		}
	}
}

// anyFree frees all, and checks how many were held.
func anyFree(t *testing.T, n *net.Net, want []kept) {
	t.Helper()
	held := 0
	for k := range want {
		if want[k].held {
			held++
		}
		want[k].held = false
	}
	if c := n.Free(); c != held {
		t.Fatalf("%d were held; want %d", c, held)
	}
}
