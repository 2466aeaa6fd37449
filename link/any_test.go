package link_test

import (
	"math"
	"math/rand"
	"reflect"
	"testing"

	"allotment/api"
	"allotment/link"
)

// newEar gives the ear of a boot that may be.
func newEar(t *testing.T, boot int) *link.Ear {
	t.Helper()
	e, why := link.NewEar(boot)
	if why != api.OK || e == nil {
		t.Fatalf("NewEar(%d): %v, %v", boot, e, why)
	}
	return e
}

// newDoor gives the door of a boot that may be.
func newDoor(t *testing.T, boot int) *link.Door {
	t.Helper()
	d, why := link.NewDoor(boot)
	if why != api.OK || d == nil {
		t.Fatalf("NewDoor(%d): %v, %v", boot, d, why)
	}
	return d
}

// of gives a message of a client.
func of(client, boot, server int) api.Message {
	return api.Message{Kind: api.MsgResync, From: client, Boot: boot, Server: server}
}

// becomes is what becomes of a message at a door.
type becomes string

const (
	nothing becomes = "nothing"
	hello   becomes = "a hello"
	letIn   becomes = "in"
	both    becomes = "both in and a hello"
)

// take tells what becomes of a message.
func take(d *link.Door, m api.Message) becomes {
	switch in, wanted := d.Take(m); {
	case in && wanted:
		return both
	case in:
		return letIn
	case wanted:
		return hello
	}
	return nothing
}

// takes checks what becomes of a message.
func takes(t *testing.T, what string, d *link.Door, m api.Message, want becomes) {
	t.Helper()
	if got := take(d, m); got != want {
		t.Errorf("%s: of client %d, boot %d, server %d: %s; want %s", what, m.From, m.Boot, m.Server, got, want)
	}
}

// listens checks what an ear tells that heard of that server.
func listens(t *testing.T, what string, e *link.Ear, boot, server int) {
	t.Helper()
	if got := e.Server(); got != server {
		t.Errorf("%s: Server %d; want %d", what, got, server)
	}
	if m := e.Stamp(api.Message{}); !reflect.DeepEqual(m, api.Message{Boot: boot, Server: server}) {
		t.Errorf("%s: Stamp %v; want boot %d, server %d", what, m, boot, server)
	}
}

// knows checks what a door tells: its own boot, and that of each client.
func knows(t *testing.T, what string, d *link.Door, boot int, boots map[int]int) {
	t.Helper()
	for client := -2; client <= api.MaxClients+2; client++ {
		if got := d.Boot(client); got != boots[client] {
			t.Errorf("%s: Boot of %d: %d; want %d", what, client, got, boots[client])
		}
		if m := d.Hello(client); !reflect.DeepEqual(m, api.Message{Kind: api.MsgHello, To: client, Server: boot}) {
			t.Errorf("%s: Hello of %d: %v; want server %d", what, client, m, boot)
		}
	}
}

// model is a door by the chapter's words.
type model struct {
	boot  int
	heard map[int]int
}

func (w *model) take(m api.Message) becomes {
	if m.From < 1 || m.From > api.MaxClients || m.Boot < 1 {
		return nothing
	}
	if m.Boot < w.heard[m.From] {
		return nothing
	}
	if m.Boot > w.heard[m.From] {
		w.heard[m.From] = m.Boot
	}
	if m.Server != w.boot {
		return hello
	}
	return letIn
}

// anyOf gives one of some numbers.
func anyOf(r *rand.Rand, l ...int) int {
	return l[r.Intn(len(l))]
}

// anyMessage gives some message to a door of that boot, of few clients and boots, so that they meet; now and then one of numbers that may not be.
func anyMessage(r *rand.Rand, boot int) api.Message {
	m := api.Message{
		Kind: int8(r.Intn(13) - 1), From: anyOf(r, 1, 2, 3, 8), To: anyOf(r, 0, 0, 0, 4), Boot: 1 + r.Intn(6),
		Server: anyOf(r, boot, boot, boot, boot-1, boot+1, 0), Number: r.Intn(9),
	}
	if r.Intn(10) == 0 {
		m.From = anyOf(r, 0, -1, 9, math.MinInt, math.MaxInt, 1<<32+1)
	}
	if r.Intn(10) == 0 {
		m.Boot = anyOf(r, 0, -1, math.MinInt)
	}
	if r.Intn(200) == 0 {
		m.Boot = anyOf(r, api.MaxNumber, api.MaxNumber+1, math.MaxInt)
	}
	if r.Intn(20) == 0 {
		m.Server = anyOf(r, -1, math.MinInt, math.MaxInt, 1<<32+boot)
	}
	return m
}
