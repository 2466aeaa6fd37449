package wire_test

import (
	"bytes"
	"reflect"
	"slices"
	"sync"
	"testing"

	"allotment/api"
	"allotment/sums"
	"allotment/wire"
)

// roomy gives kids with room behind them, and something in it.
func roomy(kids ...api.Node) []api.Node {
	l := make([]api.Node, len(kids), len(kids)+3)
	copy(l, kids)
	for i := range l[len(l):cap(l)] {
		l[len(l):cap(l)][i] = api.Node{Id: 77, Text: "room"}
	}
	return l
}

// roomyRow gives steps with room behind them, and something in it.
func roomyRow(steps ...api.Step) []api.Step {
	l := make([]api.Step, len(steps), len(steps)+3)
	copy(l, steps)
	for i := range l[len(l):cap(l)] {
		l[len(l):cap(l)][i] = api.Step{Op: api.StText, Id: 2, Text: "room"}
	}
	return l
}

// rich gives a tree that may be sent, from that id on, in memory of its own, with room behind the kids, where there are none, too.
func rich(id int) api.Node {
	return api.Node{Id: id, Text: "a", Kids: roomy(
		api.Node{Id: id + 1, Kids: roomy()},
		api.Node{Id: id + 2, Text: "b", Kids: roomy(api.Node{Id: id + 3, Kids: roomy(api.Node{Id: id + 4})})})}
}

// tries are messages in memory of their own, with room behind all lists: one of each kind that may be, and such as may not.
func tries() []api.Message {
	var l []api.Message
	for kind := first - 1; kind <= last+1; kind++ {
		m := good(max(first, min(last, kind)))
		m.Kind = kind
		if len(m.Steps) > 0 {
			m.Steps = roomyRow(insert(2, 0, rich(21)), remove(3), move(4, 5, 6), write(7, "c"), insert(1, 1, rich(41)))
		}
		if len(m.Tree.Kids) > 0 {
			m.Tree = rich(11)
		}
		l = append(l, m)
		m.Steps, m.Tree = roomyRow(insert(2, 0, rich(51)), api.Step{Op: api.StDelete, Id: 1, Sub: rich(61)}, api.Step{Op: 9, Sub: rich(71)}), rich(81)
		l = append(l, m)
	}
	return l
}

// asWas tells whether two rows of nodes are the same, room included.
func asWas(a, b []api.Node) bool {
	return len(a) == len(b) && cap(a) == cap(b) && slices.EqualFunc(a[:cap(a)], b[:cap(b)], func(x, y api.Node) bool {
		return x.Id == y.Id && x.Kind == y.Kind && x.Text == y.Text && asWas(x.Kids, y.Kids)
	})
}

// untouched checks that a message is as it was, room included.
func untouched(t *testing.T, what string, m, want api.Message) {
	t.Helper()
	steps := len(m.Steps) == len(want.Steps) && cap(m.Steps) == cap(want.Steps) && slices.EqualFunc(m.Steps[:cap(m.Steps)], want.Steps[:cap(want.Steps)], func(a, b api.Step) bool {
		return a.Op == b.Op && a.Id == b.Id && a.Parent == b.Parent && a.Place == b.Place && a.Text == b.Text && asWas([]api.Node{a.Sub}, []api.Node{b.Sub})
	})
	if !steps || !asWas([]api.Node{m.Tree}, []api.Node{want.Tree}) || !alike(m, want) {
		t.Errorf("%s: what was handed in is changed: %v", what, m)
	}
}

// spoil writes over all memory that a message hands out, room included.
func spoil(m api.Message) {
	var down func(x api.Node)
	down = func(x api.Node) {
		l := x.Kids[:cap(x.Kids)]
		for i := range l {
			down(l[i])
			l[i] = api.Node{Id: 99, Kind: 99, Text: "spoilt", Kids: []api.Node{{Id: 98}}}
		}
	}
	down(m.Tree)
	l := m.Steps[:cap(m.Steps)]
	for i := range l {
		down(l[i].Sub)
		l[i] = api.Step{Op: 99, Id: 99, Text: "spoilt", Sub: api.Node{Id: 98}}
	}
}

// R4: what was handed in is as it was, room behind lists included, whatever is asked of it.
func TestUntouched(t *testing.T) {
	for i, m := range tries() {
		wire.Right(m)
		wire.Bytes(m)
		wire.Same(m, m)
		wire.Same(m, good(1))
		wire.Tree(m.Tree)
		for _, s := range m.Steps {
			wire.Step(s)
		}
		untouched(t, "a message", m, tries()[i])
	}
}

// R4: bytes that are read are as they were, room behind them included, and are not kept: what is told shares no memory with them.
func TestReadMemory(t *testing.T) {
	for kind := first; kind <= last; kind++ {
		own := sums.Seal(raw(good(kind)))
		for _, spare := range []int{0, 1, 9, 400} {
			room := append(slices.Clone(own), bytes.Repeat([]byte{'r'}, spare)...)
			b := room[:len(own)]
			m, _, e := wire.Read(b)
			if e != api.OK || !bytes.Equal(room[:len(own)], own) || !bytes.Equal(room[len(own):], bytes.Repeat([]byte{'r'}, spare)) {
				t.Error("what was handed in is changed:", kind, e)
			}
			for i := range room {
				room[i] = 's'
			}
			if !alike(m, good(kind)) {
				t.Error("what is told hangs on the bytes:", m)
			}
		}
		b := slices.Clone(own)
		one, _, _ := wire.Read(b)
		other, _, _ := wire.Read(b)
		spoil(one)
		if !alike(other, good(kind)) || !bytes.Equal(b, own) {
			t.Error("two answers share memory:", other)
		}
	}
}

// R4: of one answer no two lists share memory, room included.
func TestListsApart(t *testing.T) {
	m := good(api.MsgDelta)
	m.Steps = row(insert(1, 0, rich(21)), insert(1, 0, rich(21)))
	b, _ := wire.Bytes(m)
	x, _, e := wire.Read(b)
	if e != api.OK {
		t.Fatal(e)
	}
	spoil(api.Message{Tree: x.Steps[0].Sub})
	x.Steps[0].Sub = rich(21)
	if !alike(x, m) {
		t.Error("two lists share memory:", x)
	}
	x, _, _ = wire.Read(b)
	kids := x.Steps[0].Sub.Kids
	spoil(api.Message{Tree: kids[0]})
	_ = append(kids, node(99))
	_ = append(x.Steps, remove(99))
	if !alike(x, m) {
		t.Error("room is shared:", x)
	}
}

// R4: bytes are new memory, and hang no longer on the message.
func TestBytesMemory(t *testing.T) {
	for i, m := range tries() {
		one, e := wire.Bytes(m)
		other, _ := wire.Bytes(m)
		if e != api.OK {
			continue
		}
		for k := range one[:cap(one)] {
			one[:cap(one)][k] = 's'
		}
		untouched(t, "a message", m, tries()[i])
		spoil(m)
		if !bytes.Equal(other, sums.Seal(raw(tries()[i]))) {
			t.Error("the bytes share memory:", other)
		}
	}
}

// R4: lists that share memory with one another are written like any.
func TestTwins(t *testing.T) {
	x := rich(21)
	l := roomyRow(insert(1, 0, x), insert(2, 0, x.Kids[1]), insert(3, 0, x))
	sent(t, "twins", with(l...))
	sent(t, "a beginning", with(l[:2]...))
	sent(t, "the rest", with(l[1:]...))
	m := good(api.MsgTree)
	m.Tree = node(1, x, x.Kids[1], x)
	sent(t, "a tree of twins", m)
	if !asWas([]api.Node{x}, []api.Node{rich(21)}) {
		t.Error("what was handed in is changed:", x)
	}
}

// answer is what all calls tell of a message.
type answer struct {
	right, same, tree bool
	steps             []bool
	b                 []byte
	e, why            api.Errno
	m                 api.Message
	at                int
}

// all gives what all calls tell of all tries.
func all() []answer {
	var l []answer
	for _, m := range tries() {
		a := answer{right: wire.Right(m), same: wire.Same(m, tries()[0]), tree: wire.Tree(m.Tree)}
		for _, s := range m.Steps {
			a.steps = append(a.steps, wire.Step(s))
		}
		a.b, a.e = wire.Bytes(m)
		a.m, a.at, a.why = wire.Read(a.b)
		l = append(l, a)
	}
	return l
}

// R3: the same call tells the same, whatever was called between.
func TestAgain(t *testing.T) {
	if first := all(); !reflect.DeepEqual(first, all()) {
		t.Error("other answers")
	}
}

// R3, R4: calls of the same things at one time do not meet.
func TestAtOneTime(t *testing.T) {
	l := tries()
	whole := sums.Seal(raw(good(api.MsgCommit)))
	var running sync.WaitGroup
	for range 8 {
		running.Go(func() {
			for range 20 {
				for _, m := range l {
					b, e := wire.Bytes(m)
					if wire.Right(m) != (e == api.OK) || e == api.OK && !bytes.Equal(b, sums.Seal(raw(m))) || !wire.Same(m, m) {
						t.Error("another answer")
					}
				}
				if m, at, e := wire.Read(whole); at != 0 || e != api.OK || !alike(m, good(api.MsgCommit)) {
					t.Error(m, at, e)
				}
			}
		})
	}
	running.Wait()
}
