package wire_test

import (
	"bytes"
	"math"
	"reflect"
	"slices"
	"strings"
	"testing"

	"allotment/api"
	"allotment/sums"
	"allotment/wire"
)

// node gives a node of the kind 0 in memory of its own.
func node(id int, kids ...api.Node) api.Node {
	return api.Node{Id: id, Kids: slices.Clone(kids)}
}

func insert(parent, place int, sub api.Node) api.Step {
	return api.Step{Op: api.StInsert, Parent: parent, Place: place, Sub: sub}
}

func remove(id int) api.Step {
	return api.Step{Op: api.StDelete, Id: id}
}

func move(id, parent, place int) api.Step {
	return api.Step{Op: api.StMove, Id: id, Parent: parent, Place: place}
}

func write(id int, text string) api.Step {
	return api.Step{Op: api.StText, Id: id, Text: text}
}

// row gives steps in memory of their own.
func row(l ...api.Step) []api.Step {
	return slices.Clone(l)
}

// The first and the last kind.
const (
	first = api.MsgHello
	last  = api.MsgTree
)

// table gives what the chapter's table says of each kind: whether a client sends it, and its fields.
func table() map[int8]struct {
	client bool
	fields string
} {
	return map[int8]struct {
		client bool
		fields string
	}{
		api.MsgHello:  {false, "Server"},
		api.MsgAsk:    {true, "Boot Server Number Node"},
		api.MsgGrant:  {false, "Server Number Lease Epoch Version Tree"},
		api.MsgDeny:   {false, "Server Number E"},
		api.MsgCommit: {true, "Boot Server Number Lease Epoch Steps"},
		api.MsgDone:   {false, "Server Number Version"},
		api.MsgRefuse: {false, "Server Number E"},
		api.MsgDelta:  {false, "Server Version Steps"},
		api.MsgResync: {true, "Boot Server"},
		api.MsgTree:   {false, "Server Version Tree"},
	}
}

// fields gives the names of what a kind has besides From and To.
func fields(kind int8) []string {
	return strings.Fields(table()[kind].fields)
}

// counted are all fields that are numbers, but Kind.
func counted() []string {
	return strings.Fields("From To Boot Server Number Node Lease Epoch Version E")
}

// bounds tells from where to where a number of a kind's message may be; from 0 to 0, if the kind has it not.
func bounds(kind int8, name string) (least, most int) {
	client := table()[kind].client
	switch {
	case name == "From" && client, name == "To" && !client:
		return 1, api.MaxClients
	case !slices.Contains(fields(kind), name):
		return 0, 0
	case name == "E":
		return 1, 999
	case name == "Version", name == "Server" && client:
		return 0, api.MaxNumber
	}
	return 1, api.MaxNumber
}

// number gives that field of m, to be read and set.
func number(m *api.Message, name string) reflect.Value {
	return reflect.ValueOf(m).Elem().FieldByName(name)
}

// bough gives a tree that may be sent, with all that there can be.
func bough() api.Node {
	return api.Node{Id: 7, Kind: 1, Text: "ab", Kids: []api.Node{{Id: 8, Kids: []api.Node{{Id: api.MaxNumber, Kind: api.MaxKinds}}}, {Id: 7, Kind: 2, Text: "\xff\x00"}}}
}

// rawBough gives the bytes of bough.
func rawBough() []byte {
	return joined(
		numbers(7, 1, 2), []byte("ab"), numbers(2),
		numbers(8, 0, 0, 1),
		numbers(1<<50, 32, 0, 0),
		numbers(7, 2, 2), []byte("\xff\x00"), numbers(0))
}

// steps gives steps that may be sent, one of each Op.
func steps() []api.Step {
	return row(insert(3, 1, bough()), remove(4), move(5, 6, 0), write(9, "new"))
}

// rawSteps gives the bytes of steps.
func rawSteps() []byte {
	return joined(
		numbers(4),
		[]byte{1}, numbers(0, 3, 1, 0), rawBough(),
		[]byte{2}, numbers(4, 0, 0, 0), numbers(0, 0, 0, 0),
		[]byte{3}, numbers(5, 6, 0, 0), numbers(0, 0, 0, 0),
		[]byte{4}, numbers(9, 0, 0, 3), []byte("new"), numbers(0, 0, 0, 0))
}

// good gives a message of each kind that may be, with other numbers in all fields.
func good(kind int8) api.Message {
	m := api.Message{Kind: kind}
	for at, name := range counted() {
		if least, most := bounds(kind, name); most > 0 {
			number(&m, name).SetInt(int64(least + at + 2))
		}
	}
	if least, most := bounds(kind, "From"); most > 0 {
		m.From = least + 2
	}
	if least, most := bounds(kind, "To"); most > 0 {
		m.To = least + 4
	}
	if slices.Contains(fields(kind), "Steps") {
		m.Steps = steps()
	}
	if slices.Contains(fields(kind), "Tree") {
		m.Tree = bough()
	}
	return m
}

// numbers gives numbers one behind the other, by chapter 3: 8 bytes each, the highest first.
func numbers(l ...int) []byte {
	var b []byte
	for _, n := range l {
		for i := range 8 {
			b = append(b, byte(uint64(n)>>(56-8*i)))
		}
	}
	return b
}

// joined gives pieces in new memory.
func joined(pieces ...[]byte) []byte {
	return bytes.Join(pieces, nil)
}

// rawNode gives a node's bytes.
func rawNode(x api.Node) []byte {
	b := joined(numbers(x.Id, x.Kind, len(x.Text)), []byte(x.Text), numbers(len(x.Kids)))
	for _, kid := range x.Kids {
		b = append(b, rawNode(kid)...)
	}
	return b
}

// raw gives the bytes of a message of a kind that is one, ahead of their sum, whether it may be or not.
func raw(m api.Message) []byte {
	b := joined([]byte{byte(m.Kind)}, numbers(m.From, m.To))
	for _, name := range fields(m.Kind) {
		switch name {
		case "Steps":
			b = append(b, numbers(len(m.Steps))...)
			for _, s := range m.Steps {
				b = append(b, joined([]byte{byte(s.Op)}, numbers(s.Id, s.Parent, s.Place, len(s.Text)), []byte(s.Text), rawNode(s.Sub))...)
			}
		case "Tree":
			b = append(b, rawNode(m.Tree)...)
		default:
			b = append(b, numbers(int(number(&m, name).Int()))...)
		}
	}
	return b
}

// sent checks a message that may be: both ways round.
func sent(t *testing.T, what string, m api.Message) {
	t.Helper()
	if !wire.Right(m) {
		t.Errorf("%s: may not be: %v", what, m)
	}
	b, e := wire.Bytes(m)
	if want := sums.Seal(raw(m)); e != api.OK || !bytes.Equal(b, want) {
		t.Errorf("%s: bytes %v, %v; want %v", what, b, e, want)
	}
	x, at, e := wire.Read(b)
	if at != 0 || e != api.OK || !alike(x, m) || !wire.Same(x, m) {
		t.Errorf("%s: read %v, %d, %v; want %v", what, x, at, e, m)
	}
	if again, e := wire.Bytes(x); e != api.OK || !bytes.Equal(again, b) {
		t.Errorf("%s: bytes again %v, %v; want %v", what, again, e, b)
	}
}

// refused checks a message that may not be, and, if its bytes would tell so, that they aren't read.
func refused(t *testing.T, what string, m api.Message, told bool) {
	t.Helper()
	if wire.Right(m) {
		t.Errorf("%s: may be: kind %d", what, m.Kind) // not the lists: they may be without end
	}
	if b, e := wire.Bytes(m); len(b) > 0 || e != api.ErrArg {
		t.Errorf("%s: bytes %v, %v", what, b, e)
	}
	if told {
		unread(t, what, sums.Seal(raw(m)), 0, api.ErrWire)
	}
}

// unread checks bytes that are no message.
func unread(t *testing.T, what string, b []byte, place int, want api.Errno) {
	t.Helper()
	if m, at, e := wire.Read(b); at != place || e != want || !reflect.DeepEqual(m, api.Message{}) {
		t.Errorf("%s: read %v, %d, %v; want nothing, %d, %v", what, m, at, e, place, want)
	}
}

// alike tells by what can be seen of them whether two messages are the same, lists of nothing and none alike.
func alike(a, b api.Message) bool {
	return reflect.DeepEqual(tidy(a), tidy(b))
}

// tidy gives m in new memory, with nil for each list of none.
func tidy(m api.Message) api.Message {
	m.Tree = tidyTree(m.Tree)
	l := m.Steps
	m.Steps = nil
	for _, s := range l {
		s.Sub = tidyTree(s.Sub)
		m.Steps = append(m.Steps, s)
	}
	return m
}

func tidyTree(x api.Node) api.Node {
	l := x.Kids
	x.Kids = nil
	for _, kid := range l {
		x.Kids = append(x.Kids, tidyTree(kid))
	}
	return x
}

// The chapter's examples.
func TestExamples(t *testing.T) {
	m := api.Message{Kind: api.MsgResync, From: 2, Boot: 1}
	own := joined([]byte{9}, numbers(2, 0, 1, 0))
	if b, e := wire.Bytes(m); len(own) != 33 || e != api.OK || !bytes.Equal(b, sums.Seal(own)) {
		t.Error(b, e)
	}
	if x, at, e := wire.Read(sums.Seal(own)); at != 0 || e != api.OK || !reflect.DeepEqual(x, m) {
		t.Error(x, at, e)
	}
	m = api.Message{Kind: api.MsgHello, To: 1, Server: 3}
	sent(t, "a hello", m)
	m.Number = 4
	refused(t, "a hello with a Number", m, false)
}

// P14.1 to P14.3: a message of each kind.
func TestKinds(t *testing.T) {
	for kind := first; kind <= last; kind++ {
		sent(t, "good", good(kind))
	}
	if len(table()) != int(last) {
		t.Error("not all kinds are asked")
	}
}

// P14.1: what is none of the kinds may not be, whatever it has.
func TestNoKind(t *testing.T) {
	for kind := math.MinInt8; kind <= math.MaxInt8; kind++ {
		if _, ok := table()[int8(kind)]; ok {
			continue
		}
		for other := first; other <= last; other++ {
			m := good(other)
			m.Kind = int8(kind)
			refused(t, "no kind", m, false)
		}
		refused(t, "no kind, bare", api.Message{Kind: int8(kind)}, false)
		refused(t, "no kind, of a client", api.Message{Kind: int8(kind), From: 1}, false)
		refused(t, "no kind, of the server", api.Message{Kind: int8(kind), To: 1}, false)
	}
}

// P14.1: one kind's fields under another kind.
func TestOtherKind(t *testing.T) {
	for kind := first; kind <= last; kind++ {
		for other := first; other <= last; other++ {
			m := good(kind)
			m.Kind = other
			less := kind == api.MsgHello && other == api.MsgDelta // of the version 0, without steps
			if table()[kind] == table()[other] || less {
				sent(t, "the same fields", m)
			} else {
				refused(t, "other fields", m, false)
			}
		}
	}
}

// P14.1: a kind alone may not be, as its fields are not from 0 on.
func TestBare(t *testing.T) {
	for kind := first; kind <= last; kind++ {
		refused(t, "bare", api.Message{Kind: kind}, true)
		refused(t, "of a client", api.Message{Kind: kind, From: 1}, true)
		refused(t, "to a client", api.Message{Kind: kind, To: 1}, true)
	}
}

// P14.1: each number at its least and its most, and one past each; those that the kind has not are 0 alone.
func TestNumbers(t *testing.T) {
	for kind := first; kind <= last; kind++ {
		for _, name := range counted() {
			least, most := bounds(kind, name)
			has := slices.Contains(fields(kind), name) || name == "From" || name == "To"
			for _, n := range []int{least, most, (least + most) / 2} {
				m := good(kind)
				number(&m, name).SetInt(int64(n))
				sent(t, name, m)
			}
			for _, n := range []int{least - 1, most + 1, -most - 1, math.MinInt, math.MaxInt, least - 1<<32, most + 1<<51, 1<<62 + least} {
				m := good(kind)
				number(&m, name).SetInt(int64(n))
				refused(t, name, m, has)
			}
		}
	}
}

// P14.1: From and To are a client and 0, or 0 and a client, never the other way round, nor both.
func TestParties(t *testing.T) {
	for kind := first; kind <= last; kind++ {
		for from := -1; from <= api.MaxClients+1; from++ {
			for to := -1; to <= api.MaxClients+1; to++ {
				m := good(kind)
				m.From, m.To = from, to
				client, server := from, to
				if !table()[kind].client {
					client, server = to, from
				}
				if server == 0 && client >= 1 && client <= api.MaxClients {
					sent(t, "parties", m)
				} else {
					refused(t, "parties", m, true)
				}
			}
		}
	}
}

// P14.1: steps and a tree where the kind has none; lists of none are none.
func TestNotItsOwn(t *testing.T) {
	for kind := first; kind <= last; kind++ {
		if !slices.Contains(fields(kind), "Steps") {
			for _, l := range [][]api.Step{steps(), row(remove(1)), make([]api.Step, 1), make([]api.Step, api.MaxSteps+1)} {
				m := good(kind)
				m.Steps = l
				refused(t, "steps", m, false)
			}
			m := good(kind)
			m.Steps = []api.Step{}
			sent(t, "steps of none", m)
		}
		if !slices.Contains(fields(kind), "Tree") {
			for _, x := range []api.Node{{Id: 1}, {Id: -1}, {Kind: 1}, {Text: "a"}, {Kids: make([]api.Node, 1)}, bough(), fan(1, api.MaxNodes+1), loop()} {
				m := good(kind)
				m.Tree = x
				refused(t, "a tree", m, false)
			}
			m := good(kind)
			m.Tree.Kids = []api.Node{}
			sent(t, "a tree of no kids", m)
		}
	}
}

// P14.1: each field that is not set though the kind has it, but for those that may be 0.
func TestMissing(t *testing.T) {
	for kind := first; kind <= last; kind++ {
		for _, name := range fields(kind) {
			m := good(kind)
			number(&m, name).SetZero()
			least, _ := bounds(kind, name)
			if name == "Steps" || name != "Tree" && least == 0 {
				sent(t, "without "+name, m)
			} else {
				refused(t, "without "+name, m, true)
			}
		}
	}
}

// P14.1: lists of nothing and none are the same, wherever they are.
func TestSameLists(t *testing.T) {
	for kind := int8(-1); kind <= last+1; kind++ {
		a := api.Message{Kind: kind, Steps: row(insert(1, 0, node(2)), remove(3)), Tree: node(1, node(2))}
		b := tidy(a)
		b.Steps[0].Sub.Kids, b.Steps[1].Sub.Kids, b.Tree.Kids[0].Kids = []api.Node{}, []api.Node{}, []api.Node{}
		same(t, "lists of none", a, b, true)
		same(t, "steps of none", api.Message{Kind: kind}, api.Message{Kind: kind, Steps: []api.Step{}, Tree: api.Node{Kids: []api.Node{}}}, true)
		roomy := make([]api.Step, 2, 9)
		copy(roomy, a.Steps)
		c := tidy(a)
		c.Steps = roomy
		same(t, "room behind", a, c, true)
		c.Steps = roomy[:1]
		same(t, "a beginning", a, c, false)
	}
}

// same checks what Same tells of two, either way round, and of each with itself.
func same(t *testing.T, what string, a, b api.Message, want bool) {
	t.Helper()
	if wire.Same(a, b) != want || wire.Same(b, a) != want || !wire.Same(a, a) || !wire.Same(b, b) {
		t.Errorf("%s: %v and %v: not %v", what, a, b, want)
	}
}

// P14.1: messages that differ in one field alone are not the same, whether they may be or not.
func TestSameFields(t *testing.T) {
	changes := map[string]func(m *api.Message){
		"Kind":              func(m *api.Message) { m.Kind++ },
		"Kind, back":        func(m *api.Message) { m.Kind-- },
		"E, below 0":        func(m *api.Message) { m.E = -m.E - 1 },
		"no Steps":          func(m *api.Message) { m.Steps = nil },
		"one step less":     func(m *api.Message) { m.Steps = m.Steps[:len(m.Steps)-1] },
		"one step more":     func(m *api.Message) { m.Steps = append(m.Steps, api.Step{}) },
		"steps about":       func(m *api.Message) { m.Steps[1], m.Steps[2] = m.Steps[2], m.Steps[1] },
		"Op":                func(m *api.Message) { m.Steps[1].Op++ },
		"the step's Id":     func(m *api.Message) { m.Steps[1].Id++ },
		"Parent":            func(m *api.Message) { m.Steps[2].Parent++ },
		"Place":             func(m *api.Message) { m.Steps[2].Place++ },
		"the step's Text":   func(m *api.Message) { m.Steps[3].Text += "\x00" },
		"an Id none names":  func(m *api.Message) { m.Steps[0].Id++ },
		"Parent, unnamed":   func(m *api.Message) { m.Steps[1].Parent++ },
		"Place, unnamed":    func(m *api.Message) { m.Steps[1].Place++ },
		"Text, unnamed":     func(m *api.Message) { m.Steps[1].Text = "a" },
		"Sub, unnamed":      func(m *api.Message) { m.Steps[1].Sub.Id++ },
		"Sub's Id":          func(m *api.Message) { m.Steps[0].Sub.Id++ },
		"Sub's Kind":        func(m *api.Message) { m.Steps[0].Sub.Kind++ },
		"Sub's Text":        func(m *api.Message) { m.Steps[0].Sub.Text = "aB" },
		"Sub's kids, fewer": func(m *api.Message) { m.Steps[0].Sub.Kids = m.Steps[0].Sub.Kids[:1] },
		"Sub, far below":    func(m *api.Message) { m.Steps[0].Sub.Kids[0].Kids[0].Id-- },
		"Tree's Id":         func(m *api.Message) { m.Tree.Id++ },
		"Tree's Kind":       func(m *api.Message) { m.Tree.Kind++ },
		"Tree's Text":       func(m *api.Message) { m.Tree.Text = "" },
		"Tree's kids, more": func(m *api.Message) { m.Tree.Kids = append(m.Tree.Kids, api.Node{}) },
		"Tree, far below":   func(m *api.Message) { m.Tree.Kids[0].Kids[0].Kind++ },
		"Tree's kids about": func(m *api.Message) { slices.Reverse(m.Tree.Kids) },
		"no Tree":           func(m *api.Message) { m.Tree = api.Node{} },
	}
	for _, name := range counted() {
		for _, by := range []int64{1, -1, 1 << 32, 1 << 62} {
			changes[name+" "+string(numbers(int(by)))] = func(m *api.Message) {
				x := number(m, name)
				x.SetInt(x.Int() + by)
			}
		}
	}
	for kind := int8(-1); kind <= last+1; kind++ {
		full := good(1)
		full.Kind, full.Steps, full.Tree = kind, steps(), bough()
		for what, change := range changes {
			a, b := tidy(full), tidy(full)
			same(t, what+", ahead of it", a, b, true)
			change(&b)
			same(t, what, a, b, false)
		}
	}
}

// P14.1: numbers that went from one field to another.
func TestSameSwapped(t *testing.T) {
	for at, name := range counted() {
		for _, other := range counted()[at+1:] {
			var a, b api.Message
			number(&a, name).SetInt(3)
			number(&b, other).SetInt(3)
			same(t, name+", "+other, a, b, false)
			same(t, name+", none", a, api.Message{}, false)
		}
	}
}
