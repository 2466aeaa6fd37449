package link_test

import (
	"reflect"
	"runtime/debug"
	"slices"
	"testing"

	"allotment/api"
	"allotment/link"
)

// roomy gives kids with room behind them, and something in it.
func roomy(kids ...api.Node) []api.Node {
	l := make([]api.Node, len(kids), len(kids)+3)
	copy(l, kids)
	for i := range l[len(l):cap(l)] {
		l[len(l):cap(l)][i] = api.Node{Id: 77, Text: "room"}
	}
	return l
}

// roomyRow gives steps with room behind them, and something in it.
func roomyRow(steps ...api.Step) []api.Step {
	l := make([]api.Step, len(steps), len(steps)+3)
	copy(l, steps)
	for i := range l[len(l):cap(l)] {
		l[len(l):cap(l)][i] = api.Step{Op: api.StText, Id: 2, Text: "room"}
	}
	return l
}

// rich gives a tree from that id on, in memory of its own, with room behind the kids.
func rich(id int) api.Node {
	return api.Node{Id: id, Kind: 1, Text: "a", Kids: roomy(
		api.Node{Id: id + 1},
		api.Node{Id: id + 2, Text: "b", Kids: roomy(api.Node{Id: id + 3, Kids: roomy(api.Node{Id: id + 4})})})}
}

// full gives a message with all that one can have, in memory of its own, with room behind all lists.
func full() api.Message {
	return api.Message{
		Kind: api.MsgCommit, From: 2, To: 3, Boot: 91, Server: 92, Number: 5, Node: 6, Lease: 7, Epoch: 8, Version: 9, E: api.ErrLease,
		Steps: roomyRow(
			api.Step{Op: api.StInsert, Parent: 1, Place: 2, Sub: rich(10)},
			api.Step{Op: api.StText, Id: 3, Text: "c"},
			api.Step{Op: 9, Id: 1, Parent: 2, Place: 3, Text: "d", Sub: rich(20)}),
		Tree: rich(30),
	}
}

// tries are messages in memory of their own.
func tries() []api.Message {
	lists := api.Message{Kind: -1, From: -5, Boot: -1, Server: -1, Steps: roomyRow(api.Step{Op: api.StDelete, Id: 1}, api.Step{Sub: rich(40)})}
	tree := api.Message{Kind: api.MsgTree, To: 1, Server: 1 << 60, Boot: 3, Tree: rich(50)}
	return []api.Message{{}, full(), lists, tree, {Kind: api.MsgResync, From: 8, Boot: 1}}
}

// asWas tells whether two rows of nodes are the same, room included.
func asWas(a, b []api.Node) bool {
	return len(a) == len(b) && cap(a) == cap(b) && slices.EqualFunc(a[:cap(a)], b[:cap(b)], func(x, y api.Node) bool {
		return x.Id == y.Id && x.Kind == y.Kind && x.Text == y.Text && asWas(x.Kids, y.Kids)
	})
}

// untouched checks that a message is as it was, room included.
func untouched(t *testing.T, what string, m, want api.Message) {
	t.Helper()
	steps := len(m.Steps) == len(want.Steps) && cap(m.Steps) == cap(want.Steps) && slices.EqualFunc(m.Steps[:cap(m.Steps)], want.Steps[:cap(want.Steps)], func(a, b api.Step) bool {
		return asWas([]api.Node{a.Sub}, []api.Node{b.Sub}) && reflect.DeepEqual(a, b)
	})
	if !steps || !asWas([]api.Node{m.Tree}, []api.Node{want.Tree}) || !reflect.DeepEqual(m, want) {
		t.Errorf("%s: what was handed in is changed: %v", what, m)
	}
}

// spoil writes over all memory that a message has, room included.
func spoil(m api.Message) {
	var down func(x api.Node)
	down = func(x api.Node) {
		l := x.Kids[:cap(x.Kids)]
		for i := range l {
			down(l[i])
			l[i] = api.Node{Id: 99, Kind: 99, Text: "spoilt", Kids: []api.Node{{Id: 98}}}
		}
	}
	down(m.Tree)
	l := m.Steps[:cap(m.Steps)]
	for i := range l {
		down(l[i].Sub)
		l[i] = api.Step{Op: 99, Id: 99, Text: "spoilt", Sub: api.Node{Id: 98}}
	}
}

// stamped gives a message with another boot and server.
func stamped(m api.Message, boot, server int) api.Message {
	m.Boot, m.Server = boot, server
	return m
}

// R4: what was handed in is as it was, room behind lists included.
func TestUntouched(t *testing.T) {
	e, d := newEar(t, 4), newDoor(t, 5)
	for i, m := range tries() {
		e.Stamp(m)
		untouched(t, "Stamp", m, tries()[i])
		e.Heard(m)
		untouched(t, "Heard", m, tries()[i])
		d.Take(m)
		untouched(t, "Take", m, tries()[i])
	}
}

// P15.2, R4: what Stamp answers shares no memory with what was handed in, nor with another answer, of nil neither.
func TestStampMemory(t *testing.T) {
	e := newEar(t, 4)
	e.Heard(api.Message{Server: 6})
	for i := range tries() {
		for of, stamp := range map[string]func(api.Message) api.Message{"an ear": e.Stamp, "nil": (*link.Ear)(nil).Stamp} {
			want := tries()[i]
			if of == "an ear" {
				want = stamped(want, 4, 6)
			}
			m := tries()[i]
			one, other := stamp(m), stamp(m)
			spoil(one)
			untouched(t, of, m, tries()[i])
			if !reflect.DeepEqual(other, want) {
				t.Errorf("%s: two answers share memory: %v", of, other)
			}
			spoil(m)
			if !reflect.DeepEqual(other, want) {
				t.Errorf("%s: the answer hangs on what was handed in: %v", of, other)
			}
		}
	}
}

// R4: of one answer no two lists share memory, though those that were handed in do.
func TestStampTwins(t *testing.T) {
	x := rich(10)
	m := api.Message{Steps: roomyRow(api.Step{Op: api.StInsert, Sub: x}, api.Step{Op: api.StInsert, Sub: x}, api.Step{Op: api.StInsert, Sub: x.Kids[1]}), Tree: x}
	same := func() api.Message {
		return api.Message{Boot: 4, Steps: []api.Step{{Op: api.StInsert, Sub: rich(10)}, {Op: api.StInsert, Sub: rich(10)}, {Op: api.StInsert, Sub: rich(10).Kids[1]}}, Tree: rich(10)}
	}
	for i, sub := range []func(m *api.Message) *api.Node{
		func(m *api.Message) *api.Node { return &m.Steps[0].Sub },
		func(m *api.Message) *api.Node { return &m.Steps[1].Sub },
		func(m *api.Message) *api.Node { return &m.Steps[2].Sub },
		func(m *api.Message) *api.Node { return &m.Tree },
	} {
		got, want := newEar(t, 4).Stamp(m), same()
		for _, m := range []*api.Message{&got, &want} {
			spoil(api.Message{Tree: *sub(m)})
			*sub(m) = api.Node{}
		}
		if !reflect.DeepEqual(got, want) {
			t.Errorf("%d: lists share memory: %v", i, got)
		}
	}
}

// R4: what was heard hangs no longer on the message.
func TestNotKept(t *testing.T) {
	e, d := newEar(t, 4), newDoor(t, 92)
	m := full()
	e.Heard(m)
	takes(t, "a full message", d, m, letIn)
	spoil(m)
	listens(t, "spoilt", e, 4, 92)
	knows(t, "spoilt", d, 92, map[int]int{2: 91})
}

// deep gives a line of that many nodes.
func deep(depth int) api.Node {
	x := api.Node{Id: depth}
	for id := depth - 1; id >= 1; id-- {
		x = api.Node{Id: id, Kids: []api.Node{x}}
	}
	return x
}

// R1: trees as deep as they are big, on a stack that doesn't bear as many calls.
func TestDeep(t *testing.T) {
	defer debug.SetMaxStack(debug.SetMaxStack(1 << 20))
	big := deep(100_000)
	e, d := newEar(t, 4), newDoor(t, 5)
	m := e.Stamp(api.Message{From: 1, Steps: []api.Step{{Sub: big}, {Sub: big}}, Tree: big})
	for _, root := range []*api.Node{&m.Steps[0].Sub, &m.Steps[1].Sub, &m.Tree} {
		depth := 0
		for x := root; x != nil; depth++ {
			if x.Id != depth+1 {
				t.Fatal("at", depth, x.Id)
			}
			x.Id = 0 // so that it tells if it shared memory
			if len(x.Kids) == 0 {
				x = nil
			} else {
				x = &x.Kids[0]
			}
		}
		if depth != 100_000 {
			t.Error("depth", depth)
		}
	}
	if e.Heard(m) || take(d, m) != hello {
		t.Error("a great message")
	}
}
