package link_test

import (
	"math"
	"math/rand"
	"reflect"
	"slices"
	"testing"

	"allotment/api"
	"allotment/link"
)

// mayNot are boots that none has, mayBe such as one may have: the least, the most, and others.
var (
	mayNot = []int{0, -1, -5, math.MinInt, api.MaxNumber + 1, 1 << 51, math.MaxInt, -api.MaxNumber}
	mayBe  = []int{1, 2, 3, 1000, 1 << 32, api.MaxNumber - 1, api.MaxNumber}
)

// The chapter's examples.
func TestExamples(t *testing.T) {
	d := newDoor(t, 5)
	takes(t, "the first one", d, of(3, 1, 0), hello)
	takes(t, "then", d, of(3, 1, 5), letIn)
	takes(t, "then", d, of(3, 2, 5), letIn)
	takes(t, "then", d, of(3, 1, 5), nothing)
}

// P15.1: a boot is from 1 to MaxNumber.
func TestBoots(t *testing.T) {
	for _, boot := range mayNot {
		if e, why := link.NewEar(boot); e != nil || why != api.ErrArg {
			t.Errorf("NewEar(%d): %v, %v", boot, e, why)
		}
		if d, why := link.NewDoor(boot); d != nil || why != api.ErrArg {
			t.Errorf("NewDoor(%d): %v, %v", boot, d, why)
		}
	}
	for _, boot := range mayBe {
		listens(t, "a new ear", newEar(t, boot), boot, 0)
		knows(t, "a new door", newDoor(t, boot), boot, nil)
	}
}

// P15.1: what one heard no other one did.
func TestApart(t *testing.T) {
	first, second := newEar(t, 4), newEar(t, 4)
	first.Heard(api.Message{Server: 9})
	listens(t, "that heard nothing", second, 4, 0)
	listens(t, "a new one", newEar(t, 4), 4, 0)
	one, other := newDoor(t, 4), newDoor(t, 4)
	takes(t, "one", one, of(1, 9, 4), letIn)
	knows(t, "that heard nothing", other, 4, nil)
	knows(t, "a new one", newDoor(t, 4), 4, nil)
	takes(t, "the other one", other, of(1, 8, 4), letIn)
	knows(t, "one", one, 4, map[int]int{1: 9})
}

// P15.2: a Server above, equal to and below what was heard of.
func TestHeard(t *testing.T) {
	e := newEar(t, 7)
	for i, c := range []struct {
		server int
		above  bool
		now    int
	}{
		{0, false, 0}, {-1, false, 0}, {math.MinInt, false, 0},
		{1, true, 1}, {1, false, 1}, {0, false, 1},
		{2, true, 2}, {1, false, 2}, {2, false, 2},
		{7, true, 7}, {6, false, 7}, {8, true, 8}, {7, false, 8}, {8, false, 8}, {9, true, 9},
		{1 << 32, true, 1 << 32}, {9, false, 1 << 32}, {1<<32 + 1, true, 1<<32 + 1}, {1, false, 1<<32 + 1},
		{api.MaxNumber - 1, true, api.MaxNumber - 1}, {api.MaxNumber, true, api.MaxNumber}, {api.MaxNumber, false, api.MaxNumber},
		{api.MaxNumber - 1, false, api.MaxNumber}, {math.MinInt, false, api.MaxNumber}, {-1, false, api.MaxNumber},
		{math.MaxInt, true, math.MaxInt}, {math.MaxInt, false, math.MaxInt}, {api.MaxNumber, false, math.MaxInt},
	} {
		if got := e.Heard(api.Message{Kind: api.MsgDone, To: 1, Server: c.server}); got != c.above {
			t.Errorf("%d: Heard of %d: %v", i, c.server, got)
		}
		listens(t, "heard", e, 7, c.now)
	}
}

// P15.2: any message of the server is heard, whatever else it has.
func TestHeardKinds(t *testing.T) {
	e := newEar(t, 1)
	for kind := range api.MsgTree + 2 {
		m := api.Message{Kind: kind, To: int(kind) % 9, Boot: 99, Server: int(kind) + 1, Number: 50, Version: 60, E: api.ErrLease, Tree: api.Node{Id: 1}}
		if !e.Heard(m) || e.Heard(m) {
			t.Error("kind", kind, "is not heard just once")
		}
		listens(t, "a kind", e, 1, int(kind)+1)
	}
}

// P15.2: in every order, each twice: what is heard of is the greatest one, and it is told each time that it rises.
func TestHeardOrders(t *testing.T) {
	r := rand.New(rand.NewSource(15))
	for range 500 {
		boots := []int{1, 1, 2, 2, 3, 3, 4, 4, 5, 5}
		r.Shuffle(len(boots), func(i, j int) { boots[i], boots[j] = boots[j], boots[i] })
		e := newEar(t, 3)
		for i, server := range boots {
			ahead := slices.Max(append([]int{0}, boots[:i]...))
			if got := e.Heard(api.Message{Server: server}); got != (server > ahead) {
				t.Fatalf("%v: Heard of %d: %v", boots[:i+1], server, got)
			}
			listens(t, "in some order", e, 3, max(ahead, server))
		}
	}
}

// P15.2: Boot and Server are the ear's, whatever was in them, and all else is as it was; stamping is no hearing.
func TestStamp(t *testing.T) {
	for _, server := range []int{0, 1, 6, api.MaxNumber} {
		e := newEar(t, 4)
		e.Heard(api.Message{Server: server})
		for i, m := range tries() {
			want := tries()[i]
			want.Boot, want.Server = 4, server
			for range 2 {
				if got := e.Stamp(m); !reflect.DeepEqual(got, want) {
					t.Errorf("Stamp: %v; want %v", got, want)
				}
			}
			listens(t, "behind a stamp", e, 4, server)
		}
	}
}

// P15.2: each field alone.
func TestStampFields(t *testing.T) {
	e := newEar(t, 4)
	e.Heard(api.Message{Server: 6})
	l := reflect.TypeFor[api.Message]()
	for i := range l.NumField() {
		full := full()
		var m api.Message
		reflect.ValueOf(&m).Elem().Field(i).Set(reflect.ValueOf(full).Field(i))
		want := m
		want.Boot, want.Server = 4, 6
		if reflect.DeepEqual(m, api.Message{}) {
			t.Error(l.Field(i).Name, "is not set")
		}
		if got := e.Stamp(m); !reflect.DeepEqual(got, want) {
			t.Errorf("%s alone: %v; want %v", l.Field(i).Name, got, want)
		}
	}
}

// P15.3: whose sender is none.
func TestTakeSenders(t *testing.T) {
	d := newDoor(t, 5)
	for _, from := range []int{0, -1, math.MinInt, api.MaxClients + 1, 256, 257, 1<<32 + 1, math.MaxInt} {
		for _, server := range []int{0, 4, 5, 6} {
			takes(t, "no client", d, of(from, 1, server), nothing)
			takes(t, "no client", d, of(from, 9, server), nothing)
		}
		if d.Boot(from) != 0 {
			t.Error("heard of", from)
		}
	}
	knows(t, "of nobody", d, 5, nil)
	want := map[int]int{}
	for from := 1; from <= api.MaxClients; from++ {
		takes(t, "a client", d, of(from, 1, 5), letIn)
		want[from] = 1
		knows(t, "of clients", d, 5, want)
	}
}

// P15.3: boots below 1, below, equal to and above the greatest one that was heard of.
func TestTakeBoots(t *testing.T) {
	d := newDoor(t, 5)
	for _, c := range []struct {
		boot int
		want becomes
		now  int
	}{
		{0, nothing, 0}, {-1, nothing, 0}, {math.MinInt, nothing, 0},
		{1, letIn, 1}, {1, letIn, 1}, {0, nothing, 1}, {-1, nothing, 1},
		{2, letIn, 2}, {1, nothing, 2}, {2, letIn, 2},
		{7, letIn, 7}, {6, nothing, 7}, {1, nothing, 7}, {0, nothing, 7}, {7, letIn, 7}, {8, letIn, 8},
		{1 << 32, letIn, 1 << 32}, {8, nothing, 1 << 32}, {1<<32 - 1, nothing, 1 << 32},
		{api.MaxNumber, letIn, api.MaxNumber}, {api.MaxNumber - 1, nothing, api.MaxNumber}, {api.MaxNumber, letIn, api.MaxNumber},
		{math.MinInt, nothing, api.MaxNumber},
		{math.MaxInt, letIn, math.MaxInt}, {math.MaxInt - 1, nothing, math.MaxInt}, {math.MaxInt, letIn, math.MaxInt},
	} {
		takes(t, "boots", d, of(2, c.boot, 5), c.want)
		knows(t, "boots", d, 5, map[int]int{2: c.now})
	}
}

// P15.3: a Server that is the door's, one below and one above it; a message of an earlier boot is nothing whatever its Server is.
func TestTakeServers(t *testing.T) {
	for _, own := range mayBe {
		d := newDoor(t, own)
		for _, boot := range []int{3, 3, 4} {
			for server, want := range map[int]becomes{own: letIn, own - 1: hello, own + 1: hello, 0: hello, -own: hello, math.MinInt: hello, math.MaxInt: hello} {
				takes(t, "a server", d, of(1, boot, server), want)
				takes(t, "a server, of an earlier boot", d, of(1, boot-1, server), nothing)
				takes(t, "a server, of no boot", d, of(1, 0, server), nothing)
			}
		}
		knows(t, "servers", d, own, map[int]int{1: 4})
	}
}

// P15.3: a greater boot is noted, too, though only a hello is answered.
func TestTakeNotes(t *testing.T) {
	d := newDoor(t, 5)
	takes(t, "a first boot", d, of(1, 2, 0), hello)
	knows(t, "a first boot", d, 5, map[int]int{1: 2})
	takes(t, "ahead of it", d, of(1, 1, 5), nothing)
	takes(t, "the same", d, of(1, 2, 5), letIn)
	takes(t, "a greater boot", d, of(1, 3, 4), hello)
	knows(t, "a greater boot", d, 5, map[int]int{1: 3})
	takes(t, "what was let in", d, of(1, 2, 5), nothing)
	takes(t, "one more", d, of(1, 4, 6), hello)
	takes(t, "ahead of it", d, of(1, 3, 5), nothing)
	takes(t, "that one", d, of(1, 4, 5), letIn)
	knows(t, "one more", d, 5, map[int]int{1: 4})
}

// P15.3: clients beside one another: none's boot stands for another one.
func TestTakeClients(t *testing.T) {
	d := newDoor(t, 5)
	want := map[int]int{}
	for from := api.MaxClients; from >= 1; from-- {
		takes(t, "a client", d, of(from, 10+from, 5), letIn)
		want[from] = 10 + from
		knows(t, "clients", d, 5, want)
	}
	for from := 1; from <= api.MaxClients; from++ {
		takes(t, "below its own", d, of(from, 9+from, 5), nothing)
		takes(t, "its own", d, of(from, 10+from, 5), letIn)
		takes(t, "its own, another server", d, of(from, 10+from, 4), hello)
		takes(t, "above its own", d, of(from, 11+from, 5), letIn)
		want[from] = 11 + from
		knows(t, "clients", d, 5, want)
	}
}

// P15.3: what a message is for, and whom it is to, changes nothing.
func TestTakeKinds(t *testing.T) {
	for kind := int8(-1); kind <= api.MsgTree+1; kind++ {
		for _, to := range []int{0, 1, 9, -1} {
			m := full()
			m.Kind, m.From, m.To, m.Boot, m.Server = kind, 1, to, 3, 5
			d := newDoor(t, 5)
			takes(t, "a kind", d, m, letIn)
			m.Server = 4
			takes(t, "a kind", d, m, hello)
			m.Boot = 2
			takes(t, "a kind", d, m, nothing)
			knows(t, "a kind", d, 5, map[int]int{1: 3})
		}
	}
}

// P15.3: Hello's Server is the door's, whatever it took, to whoever is named; it is no taking.
func TestHello(t *testing.T) {
	for _, boot := range mayBe {
		d := newDoor(t, boot)
		for _, m := range []api.Message{of(1, 1, boot), of(2, 9, boot+1), of(9, 3, 0)} {
			d.Take(m)
			for _, to := range []int{0, 1, 2, api.MaxClients, api.MaxClients + 1, -1, math.MinInt, math.MaxInt} {
				if m := d.Hello(to); !reflect.DeepEqual(m, api.Message{Kind: api.MsgHello, To: to, Server: boot}) {
					t.Errorf("Hello(%d) of boot %d: %v", to, boot, m)
				}
			}
		}
		knows(t, "behind hellos", d, boot, map[int]int{1: 1, 2: 9})
	}
}

// P15.3: of one that is none, or that was never heard of, the greatest boot is 0.
func TestBootOfNone(t *testing.T) {
	d := newDoor(t, 5)
	for range 2 {
		for _, client := range []int{3, 0, -1, math.MinInt, 9, 257, 1<<32 + 1, math.MaxInt} {
			if n := d.Boot(client); n != 0 {
				t.Errorf("Boot(%d): %d", client, n)
			}
		}
		takes(t, "another client", d, of(1, 4, 5), letIn)
	}
	knows(t, "asked", d, 5, map[int]int{1: 4})
}

// P15.2, P15.3, R1: of nil.
func TestNil(t *testing.T) {
	var e *link.Ear
	var d *link.Door
	for i, m := range tries() {
		m.From, m.Boot = 1, 1
		if e.Heard(m) || e.Server() != 0 {
			t.Error("heard by nobody:", m)
		}
		want := tries()[i]
		want.From, want.Boot = 1, 1
		if got := e.Stamp(m); !reflect.DeepEqual(got, want) {
			t.Errorf("Stamp: %v; want %v", got, want)
		}
		takes(t, "nil", d, m, nothing)
	}
	for client := -1; client <= api.MaxClients+1; client++ {
		if m := d.Hello(client); !reflect.DeepEqual(m, api.Message{}) {
			t.Error("Hello:", m)
		}
		if n := d.Boot(client); n != 0 {
			t.Error("Boot:", n)
		}
	}
}

// R1: what New did not make doesn't panic.
func TestZero(t *testing.T) {
	var e link.Ear
	if !e.Heard(api.Message{Server: 3}) || e.Heard(api.Message{Server: 3}) || e.Server() != 3 {
		t.Error("the zero Ear:", e.Server())
	}
	var d link.Door
	if d.Boot(1) != 0 {
		t.Error("the zero Door:", d.Boot(1))
	}
	takes(t, "the zero Door", &d, of(1, 2, 3), hello)
	takes(t, "the zero Door", &d, of(1, 1, 3), nothing)
	knows(t, "the zero Door", &d, 0, map[int]int{1: 2})
}

// P15.3: many messages, as the chapter's words have it.
func TestTakeAny(t *testing.T) {
	for seed := range int64(300) {
		r := rand.New(rand.NewSource(seed))
		boot := 1 + r.Intn(4)
		d, w := newDoor(t, boot), &model{boot, map[int]int{}}
		for range 200 {
			m := anyMessage(r, boot)
			takes(t, "some message", d, m, w.take(m))
		}
		knows(t, "many messages", d, boot, w.heard)
		if t.Failed() {
			t.Fatal("seed", seed)
		}
	}
}
