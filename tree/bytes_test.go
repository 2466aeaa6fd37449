package tree_test

import (
	"bytes"
	"math"
	"math/rand"
	"reflect"
	"strings"
	"testing"

	"allotment/api"
	"allotment/code"
	"allotment/tree"
)

// numbers gives numbers one behind the other, 8 bytes each, the highest first.
func numbers(l ...int) []byte {
	var b []byte
	for _, n := range l {
		for i := range 8 {
			b = append(b, byte(uint64(n)>>(56-8*i)))
		}
	}
	return b
}

// rawRich gives the bytes of rich.
func rawRich() []byte {
	return bytes.Join([][]byte{
		numbers(1, 0, 0, 3),
		numbers(2, 1, 1), []byte("a"), numbers(2),
		numbers(-4, -1, 5), []byte("x\"y\\z"), numbers(0),
		numbers(5, 3, 0, 1),
		numbers(6, 0, 0, 0),
		numbers(5, 4, 4), []byte("late"), numbers(1),
		numbers(7, 0, 0, 0),
		numbers(math.MinInt, math.MaxInt, 0, 0),
	}, nil)
}

// isRead checks bytes that are a tree's, or are none: then no tree is told.
func isRead(t *testing.T, what string, b []byte, want api.Node, place int, wanted api.Errno) {
	t.Helper()
	x, at, e := tree.Read(b)
	if at != place || e != wanted {
		t.Errorf("%s: %d, %v; want %d, %v", what, at, e, place, wanted)
	}
	if wanted != api.OK && !reflect.DeepEqual(x, api.Node{}) {
		t.Errorf("%s: a tree beside an error: %v", what, x)
	}
	is(t, what, x, want)
}

// P6.3: byte for byte.
func TestBytes(t *testing.T) {
	x := rich()
	if b := tree.Bytes(x); !bytes.Equal(b, rawRich()) {
		t.Errorf("%v; want %v", b, rawRich())
	}
	untouched(t, "Bytes", x)
	if b := tree.Bytes(api.Node{}); !bytes.Equal(b, make([]byte, 32)) {
		t.Error(b)
	}
	for what, x := range ordinary() {
		if b := tree.Bytes(x); !bytes.Equal(b, code.Node(nil, x)) {
			t.Errorf("%s: %v", what, b)
		}
	}
	a, b := tree.Bytes(x), tree.Bytes(x)
	clear(a[:cap(a)])
	if !bytes.Equal(b, rawRich()) {
		t.Error("two answers share memory")
	}
}

// P6.3, P6.4: Read of Bytes is the tree, Bytes of Read are the bytes.
func TestRead(t *testing.T) {
	isRead(t, "rich", rawRich(), rich(), 0, api.OK)
	isRead(t, "zero", make([]byte, 32), api.Node{}, 0, api.OK)
	for what, x := range ordinary() {
		if tree.Count(x) > api.MaxNodes {
			continue
		}
		b := tree.Bytes(x)
		isRead(t, what, b, x, 0, api.OK)
		if y, _, _ := tree.Read(b); !bytes.Equal(tree.Bytes(y), b) {
			t.Errorf("%s: put again %v; want %v", what, tree.Bytes(y), b)
		}
	}
}

// P6.3, R4: what is read is new memory; the bytes are as they were.
func TestReadMemory(t *testing.T) {
	room := append(rawRich(), bytes.Repeat([]byte{'r'}, 20)...)
	b := room[:len(room)-20]
	x, _, _ := tree.Read(b)
	y, _, _ := tree.Read(b)
	if !bytes.Equal(room, append(rawRich(), bytes.Repeat([]byte{'r'}, 20)...)) {
		t.Error("what was handed in is changed:", room)
	}
	clear(room)
	spoil(y)
	is(t, "what was read", x, rich())
}

// P6.3: bytes that end anywhere, and ones that go on behind the tree.
func TestReadCut(t *testing.T) {
	whole := rawRich()
	for size := range whole {
		r := code.New(whole[:size])
		r.Node()
		at, e := r.End()
		if e != api.ErrWire {
			t.Error(size, e)
		}
		isRead(t, "cut", whole[:size], api.Node{}, at, e)
	}
	isRead(t, "nothing", nil, api.Node{}, 0, api.ErrWire)
	isRead(t, "no bytes", []byte{}, api.Node{}, 0, api.ErrWire)
	isRead(t, "half a number", make([]byte, 5), api.Node{}, 5, api.ErrWire)
	isRead(t, "half a node", make([]byte, 20), api.Node{}, 20, api.ErrWire)
	isRead(t, "a byte lacks", make([]byte, 31), api.Node{}, 31, api.ErrWire)
	isRead(t, "a kid lacks", numbers(1, 0, 0, 1), api.Node{}, 24, api.ErrWire)
	isRead(t, "a text lacks", numbers(1, 0, 9, 0), api.Node{}, 16, api.ErrWire)
	isRead(t, "kids below 0", numbers(1, 0, 0, -1), api.Node{}, 24, api.ErrWire)
	for _, more := range []int{1, 8, 31, 32, 100} {
		isRead(t, "more", append(rawRich(), make([]byte, more)...), api.Node{}, len(whole), api.ErrWire)
	}
	isRead(t, "a tree behind a tree", append(numbers(1, 0, 0, 0), rawRich()...), api.Node{}, 32, api.ErrWire)
}

// P6.3: of any bytes, what code tells.
func TestReadOfAny(t *testing.T) {
	r := rand.New(rand.NewSource(7))
	wrong := 0
	for range 5000 {
		nodes := 1 + r.Intn(9)
		b := tree.Bytes(anyTree(r, &nodes))
		for range r.Intn(3) {
			b[r.Intn(len(b))] = []byte{0, 1, 2, 0x7f, 0xff, byte(r.Intn(256))}[r.Intn(6)]
		}
		b = b[:len(b)-max(0, r.Intn(40)-35)]
		rd := code.New(b)
		want := rd.Node()
		at, e := rd.End()
		if e != api.OK {
			want = api.Node{}
			wrong++
		}
		isRead(t, "any", b, want, at, e)
		if y, _, e := tree.Read(b); e == api.OK && !bytes.Equal(tree.Bytes(y), b) {
			t.Errorf("%v: put again %v", b, tree.Bytes(y))
		}
	}
	if wrong < 500 || wrong > 4500 {
		t.Errorf("%d of 5000 were wrong: that tells little", wrong)
	}
}

// P6.3: just MaxBytes bytes, and one more: of a tree, and of none.
func TestReadMaxBytes(t *testing.T) {
	for _, spare := range []int{0, 1, 33} {
		x := api.Node{Id: 1, Text: strings.Repeat("t", api.MaxBytes-32-spare)}
		isRead(t, "not above MaxBytes", tree.Bytes(x), x, 0, api.OK)
	}
	for _, above := range []int{1, 2, api.MaxBytes} {
		x := api.Node{Id: 1, Text: strings.Repeat("t", api.MaxBytes-32+above)}
		isRead(t, "above MaxBytes", tree.Bytes(x), api.Node{}, 0, api.ErrLong)
		isRead(t, "above MaxBytes, no tree", bytes.Repeat([]byte{0xff}, api.MaxBytes+above), api.Node{}, 0, api.ErrLong)
		isRead(t, "above MaxBytes, goes on behind the tree", make([]byte, api.MaxBytes+above), api.Node{}, 0, api.ErrLong)
	}
	isRead(t, "MaxBytes, goes on behind the tree", make([]byte, api.MaxBytes), api.Node{}, 32, api.ErrWire)
	isRead(t, "MaxBytes, no tree", bytes.Repeat([]byte{0xff}, api.MaxBytes), api.Node{}, 16, api.ErrWire)
}

// P6.3, P6.4: trees at code's bounds, and one past them.
func TestReadBounds(t *testing.T) {
	const deepest = api.MaxDepth + 8
	for _, depth := range []int{deepest - 1, deepest} {
		isRead(t, "deep", tree.Bytes(deep(depth, 1)), deep(depth, 1), 0, api.OK)
	}
	for _, depth := range []int{deepest + 1, deepest + 2, 1000} {
		isRead(t, "too deep", tree.Bytes(deep(depth, 0)), api.Node{}, 32*deepest, api.ErrWire)
	}
	for _, nodes := range []int{api.MaxNodes - 1, api.MaxNodes} {
		x := node(1, make([]api.Node, nodes-1)...)
		isRead(t, "many nodes", tree.Bytes(x), x, 0, api.OK)
	}
	for _, nodes := range []int{api.MaxNodes + 1, 1000} {
		x := node(1, make([]api.Node, nodes-1)...)
		isRead(t, "too many nodes", tree.Bytes(x), api.Node{}, 32*api.MaxNodes, api.ErrWire)
	}
}
