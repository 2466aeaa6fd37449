package link_test

import (
	"math/rand"
	"testing"

	"allotment/api"
	"allotment/link"
)

// state is what either side heard: the client's boot, the server's boot that it heard of, the server's boot, and what that heard of this client and of another one.
type state struct {
	client, knows, server, heard, other int
}

// sides gives an ear of the client 1 and a door in that state.
func (s state) sides(t *testing.T) (*link.Ear, *link.Door) {
	t.Helper()
	e, d := newEar(t, s.client), newDoor(t, s.server)
	if s.knows > 0 {
		e.Heard(api.Message{Kind: api.MsgHello, To: 1, Server: s.knows})
	}
	if s.heard > 0 {
		d.Take(of(1, s.heard, s.server))
	}
	if s.other > 0 {
		d.Take(of(2, s.other, 0))
	}
	return e, d
}

// states gives all states of small boots, and some of great ones.
func states() []state {
	var l []state
	for _, boots := range [][]int{{1, 2, 3, 4}, {1, 2, api.MaxNumber - 1, api.MaxNumber}} {
		for _, client := range boots {
			for _, server := range boots {
				for _, knows := range append([]int{0}, boots...) {
					for _, heard := range append([]int{0}, boots...) {
						l = append(l, state{client, knows, server, heard, 0}, state{client, knows, server, heard, 9})
					}
				}
			}
		}
	}
	return l
}

// P15.4: behind its hello, the next message of the client is let in, from any state of either side.
func TestTwoSteps(t *testing.T) {
	steps := 0
	for _, s := range states() {
		if s.knows > s.server {
			continue
		}
		e, d := s.sides(t)
		m := e.Stamp(api.Message{Kind: api.MsgResync, From: 1})
		want := letIn
		switch {
		case s.client < s.heard:
			want = nothing
		case s.knows < s.server:
			want = hello
		}
		takes(t, "the first step", d, m, want)
		if want != hello {
			continue
		}
		steps++
		if !e.Heard(d.Hello(1)) || e.Server() != s.server {
			t.Errorf("%v: the hello was not heard: %d", s, e.Server())
		}
		for range 2 {
			takes(t, "the second step", d, e.Stamp(api.Message{Kind: api.MsgAsk, From: 1, Number: 1, Node: 2}), letIn)
		}
		if e.Heard(d.Hello(1)) {
			t.Errorf("%v: the hello is heard once more", s)
		}
	}
	if steps < 100 {
		t.Error("only", steps, "hellos")
	}
}

// P15.4: of a client that heard of a greater server's boot than this one nothing is let in, however many hellos it hears: what is heard never falls.
func TestGreaterServer(t *testing.T) {
	for _, s := range states() {
		if s.knows <= s.server || s.client < s.heard {
			continue
		}
		e, d := s.sides(t)
		for range 3 {
			takes(t, "another server", d, e.Stamp(of(1, 0, 0)), hello)
			if e.Heard(d.Hello(1)) || e.Server() != s.knows {
				t.Errorf("%v: what is heard fell: %d", s, e.Server())
			}
		}
	}
}

// P15.4: a message of an earlier boot of a client that was heard of later is never let in, whatever its Server is, and whatever comes between.
func TestEarlierBoot(t *testing.T) {
	for boot := 2; boot <= 5; boot++ {
		for _, server := range []int{4, 5, 6} { // by a hello or let in, it is heard of
			d := newDoor(t, 5)
			for earlier := 1; earlier < boot; earlier++ {
				takes(t, "a boot", d, of(1, earlier, 5), letIn)
			}
			takes(t, "the later boot", d, of(1, boot, server), map[bool]becomes{true: letIn, false: hello}[server == 5])
			for range 2 {
				for earlier := range boot {
					for _, told := range []int{0, 4, 5, 6} {
						takes(t, "an earlier boot", d, of(1, earlier, told), nothing)
					}
					takes(t, "another client", d, of(2, earlier+1, 5), map[bool]becomes{true: letIn, false: nothing}[earlier+1 >= d.Boot(2)])
				}
				takes(t, "the later boot", d, of(1, boot, 5), letIn)
			}
		}
	}
}

// run is clients and a server that begin anew and whose messages come in any order, more than once, or never.
type run struct {
	t       *testing.T
	r       *rand.Rand
	ears    map[int]*link.Ear
	boots   map[int]int
	door    *link.Door
	boot    int
	toDoor  []api.Message
	toEars  []api.Message
	greater map[int]int // the greatest boot of each client that the door heard of
}

func newRun(t *testing.T, seed int64) *run {
	x := &run{t: t, r: rand.New(rand.NewSource(seed)), ears: map[int]*link.Ear{}, boots: map[int]int{}}
	for client := 1; client <= 3; client++ {
		x.restart(client)
	}
	x.up()
	return x
}

// restart has a client begin anew: all that it heard is forgotten.
func (x *run) restart(client int) {
	x.boots[client]++
	x.ears[client] = newEar(x.t, x.boots[client])
}

// up has the server begin anew.
func (x *run) up() {
	x.boot++
	x.door, x.greater = newDoor(x.t, x.boot), map[int]int{}
}

// comes has some message at the door come in, which may come again.
func (x *run) comes() {
	m := x.toDoor[x.r.Intn(len(x.toDoor))]
	got := take(x.door, m)
	if got == letIn && (m.Boot < x.greater[m.From] || m.Server != x.boot) || got == nothing && m.Boot >= x.greater[m.From] {
		x.t.Errorf("of boot %d, server %d: %s; the greatest is %d, the server's %d", m.Boot, m.Server, got, x.greater[m.From], x.boot)
	}
	x.greater[m.From] = max(x.greater[m.From], m.Boot)
	if got == hello {
		x.toEars = append(x.toEars, x.door.Hello(m.From))
	}
}

// hears has some message to a client come in, which may come again, and checks that what is heard never falls.
func (x *run) hears() {
	m := x.toEars[x.r.Intn(len(x.toEars))]
	e := x.ears[m.To]
	ahead := e.Server()
	if rose := e.Heard(m); rose != (m.Server > ahead) || e.Server() != max(ahead, m.Server) {
		x.t.Errorf("heard of %d, then of %d: %d, %v", ahead, m.Server, e.Server(), rose)
	}
}

func (x *run) step() {
	client := 1 + x.r.Intn(3)
	switch n := x.r.Intn(20); {
	case n == 0:
		x.restart(client)
	case n == 1:
		x.up()
	case n < 8:
		x.toDoor = append(x.toDoor, x.ears[client].Stamp(api.Message{Kind: api.MsgResync, From: client}))
	case n < 14 && len(x.toDoor) > 0:
		x.comes()
	case len(x.toEars) > 0:
		x.hears()
	}
}

// twoSteps has each client talk to the server as P15.4 says, whatever was before.
func (x *run) twoSteps() {
	for client, e := range x.ears {
		m := e.Stamp(api.Message{Kind: api.MsgResync, From: client})
		got := take(x.door, m)
		if got == hello {
			e.Heard(x.door.Hello(client))
			got = take(x.door, e.Stamp(api.Message{Kind: api.MsgResync, From: client}))
		}
		if got != letIn { // its boot is the latest one, so it can't be nothing
			x.t.Errorf("client %d of boot %d at the server %d, of which it knows %d: %s", client, x.boots[client], x.boot, e.Server(), got)
		}
		x.greater[client] = x.boots[client]
	}
}

// P15.4: from whatever a long run of restarts, losses and repetitions leaves, two steps do.
func TestRuns(t *testing.T) {
	for seed := range int64(300) {
		x := newRun(t, seed)
		for range 20 {
			for range 30 {
				x.step()
			}
			x.twoSteps()
			knows(t, "a run", x.door, x.boot, x.boots)
		}
		if t.Failed() {
			t.Fatal("seed", seed)
		}
	}
}
