package code_test

import (
	"bytes"
	"math"
	"math/rand"
	"reflect"
	"slices"
	"testing"

	"allotment/api"
	"allotment/code"
)

// The calls that read, as functions of what is read.
func number(r *code.Reader) any { return r.Number() }
func small(r *code.Reader) any  { return r.Small() }
func text(r *code.Reader) any   { return r.Text() }
func node(r *code.Reader) any   { return r.Node() }
func steps(r *code.Reader) any  { return r.Steps() }

func count(size, most int) func(r *code.Reader) any {
	return func(r *code.Reader) any { return r.Count(size, most) }
}

// fails checks that a reader ends at that place, and tells nothing from then on.
func fails(t *testing.T, what string, r *code.Reader, place int) {
	t.Helper()
	for range 2 {
		if at, e := r.End(); at != place || e != api.ErrWire {
			t.Errorf("%s: End %d, %v; want %d", what, at, e, place)
		}
		if n, s, x, m, l, c := r.Number(), r.Small(), r.Text(), r.Node(), r.Steps(), r.Count(1, math.MaxInt); n != 0 || s != 0 || x != "" || !reflect.DeepEqual(m, api.Node{}) || len(l) != 0 || c != 0 {
			t.Errorf("%s: goes on: %d, %d, %q, %v, %v, %d", what, n, s, x, m, l, c)
		}
	}
}

// isZero tells whether nothing was told.
func isZero(x any) bool {
	if l, ok := x.([]api.Step); ok {
		return len(l) == 0
	}
	return reflect.ValueOf(x).IsZero()
}

// refused checks bytes in which something can't stand at that place, alone and behind others.
func refused(t *testing.T, what string, b []byte, read func(r *code.Reader) any, place int) {
	t.Helper()
	ones := bytes.Repeat([]byte{0xff}, 11)
	for _, ahead := range []int{0, 11} {
		r := code.New(joined(ones[:ahead], b))
		for range ahead {
			r.Small()
		}
		if x := read(r); !isZero(x) {
			t.Errorf("%s: read %v", what, x)
		}
		fails(t, what, r, ahead+place)
	}
}

// stands checks bytes that are read, with so many left.
func stands(t *testing.T, what string, b []byte, read func(r *code.Reader) any, left int) {
	t.Helper()
	r := code.New(b)
	read(r)
	at, e := r.End()
	if left == 0 && (at != 0 || e != api.OK) || left > 0 && (at != len(b)-left || e != api.ErrWire) {
		t.Errorf("%s: End %d, %v; want %d left of %d", what, at, e, left, len(b))
	}
	for k := range left {
		if x := r.Small(); byte(x) != b[len(b)-left+k] {
			t.Errorf("%s: read %d as the %d-th that is left", what, x, k)
		}
	}
	whole(t, what, r)
}

// P3.2, P3.3: a number that ends too early, at the bytes' end.
func TestEndsTooEarly(t *testing.T) {
	for size := range 8 {
		b := bytes.Repeat([]byte{0xff}, size)
		for what, read := range map[string]func(r *code.Reader) any{"Number": number, "Text": text, "Node": node, "Steps": steps, "Count": count(1, 9)} {
			refused(t, what, b, read, size)
		}
	}
	refused(t, "Small", nil, small, 0)
	refused(t, "Node, no Kind", numbers(1), node, 8)
	refused(t, "Node, half a Kind", numbers(1, 2)[:12], node, 12)
	refused(t, "Node, no Text", numbers(1, 2), node, 16)
	refused(t, "Node, half a count", numbers(1, 2, 0, 0)[:31], node, 31)
	refused(t, "a kid whose room a text took", joined(numbers(1, 2, 0, 1), numbers(3, 4, 1), []byte("a"), numbers(0)[:7]), node, 64)
	refused(t, "Steps, one of 57 bytes", joined(numbers(1), make([]byte, 57)), steps, 65)
	refused(t, "Steps, one of 64 bytes", joined(numbers(1), make([]byte, 64)), steps, 72)
	stands(t, "Steps, one of 65 bytes", joined(numbers(1), make([]byte, 65)), steps, 0)
}

// P3.2, P3.3: a text's count.
func TestTextWrongly(t *testing.T) {
	for _, n := range []int{-1, math.MinInt, 4, 5, 1 << 32, math.MaxInt} {
		refused(t, "Text", joined(numbers(n), []byte("abc")), text, 0)
		refused(t, "Node's Text", joined(numbers(1, 2, n), []byte("abc")), node, 16)
	}
	for _, n := range []int{-1, math.MinInt, 33, 1 << 32, math.MaxInt} {
		refused(t, "Step's Text", joined(numbers(1), []byte{1}, numbers(0, 0, 0, n), make([]byte, 32)), steps, 33)
	}
	refused(t, "Text of one, none there", numbers(1), text, 0)
	refused(t, "Text of -1, none there", numbers(-1), text, 0)
	for n := range 4 {
		stands(t, "Text", joined(numbers(n), []byte("abc")), text, 3-n)
	}
}

// P3.2, P3.3: a count of kids below 0, one that just can stand in the bytes behind it, and one more.
func TestKidsWrongly(t *testing.T) {
	for _, n := range []int{-1, math.MinInt, 3, 4, 1 << 59, 1 << 60, math.MaxInt} { // 32 times some of them comes to little
		refused(t, "kids", joined(numbers(1, 2, 0, n), make([]byte, 2*32+31)), node, 24)
		refused(t, "kids behind a text", joined(numbers(1, 2, 1), []byte("a"), numbers(n), make([]byte, 2*32)), node, 25)
		refused(t, "kids of a kid", joined(numbers(1, 2, 0, 1), numbers(3, 4, 0, n), make([]byte, 2*32)), node, 56)
	}
	for n := range 3 {
		stands(t, "kids", joined(numbers(1, 2, 0, n), make([]byte, 2*32)), node, 32*(2-n))
	}
	refused(t, "one kid, no room", numbers(1, 2, 0, 1), node, 24)
	refused(t, "one kid, room for less", joined(numbers(1, 2, 0, 1), make([]byte, 31)), node, 24)
}

// P3.2, P3.3: a count of steps below 0, one that just can stand in the bytes behind it (57 each), and one more.
func TestStepsWrongly(t *testing.T) {
	for _, n := range []int{-1, math.MinInt, 3, 60, 61, 1 << 58, math.MaxInt} {
		refused(t, "steps", joined(numbers(n), make([]byte, 3*57-1)), steps, 0)
	}
	refused(t, "one step, nothing behind it", numbers(1), steps, 0)
	refused(t, "one step, room for less", joined(numbers(1), make([]byte, 56)), steps, 0)
	refused(t, "three that can stand, by their count", joined(numbers(3), make([]byte, 3*57)), steps, 8+3*57)
	stands(t, "two that stand", joined(numbers(2), make([]byte, 3*57)), steps, 3*57-2*65)
	stands(t, "none", joined(numbers(0), make([]byte, 3)), steps, 3)
}

// P3.2, P3.3: MaxSteps steps, and one more.
func TestMaxSteps(t *testing.T) {
	for _, n := range []int{api.MaxSteps - 1, api.MaxSteps} {
		r := code.New(code.Steps(nil, make([]api.Step, n)))
		if l := r.Steps(); len(l) != n {
			t.Errorf("read %d steps; want %d", len(l), n)
		}
		whole(t, "Steps", r)
	}
	for _, n := range []int{api.MaxSteps + 1, 2 * api.MaxSteps} {
		refused(t, "Steps", code.Steps(nil, make([]api.Step, n)), steps, 0)
	}
}

// inStep gives the bytes of steps of which the k-th has that tree.
func inStep(n, k int, tree []byte) []byte {
	b := numbers(n)
	for i := range n {
		b = append(b, make([]byte, 33)...)
		if i == k {
			b = append(b, tree...)
		} else {
			b = append(b, make([]byte, 32)...)
		}
	}
	return b
}

// P3.2, P3.3: depth MaxDepth + 8, and one more.
func TestMaxDepth(t *testing.T) {
	const most = api.MaxDepth + 8
	for leaves := range 3 {
		for _, depth := range []int{most - 1, most} {
			stands(t, "Node", rawDeep(depth, leaves), node, 0)
			stands(t, "Steps", inStep(2, 1, rawDeep(depth, leaves)), steps, 0)
		}
		for _, depth := range []int{most + 1, most + 2, most + 50} {
			refused(t, "Node", rawDeep(depth, leaves), node, 32*most)
			refused(t, "Steps", inStep(2, 1, rawDeep(depth, leaves)), steps, 8+65+33+32*most)
		}
	}
	r := code.New(rawDeep(most, 1))
	if x := r.Node(); !reflect.DeepEqual(x, deep(most, 1)) {
		t.Error("another tree:", x)
	}
	refused(t, "too deep, and broken there", append(rawDeep(most+1, 0)[:32*most], bytes.Repeat([]byte{0xff}, 32)...), node, 32*most)
}

// P3.2, P3.3: MaxNodes nodes, and one more, of one tree.
func TestMaxNodes(t *testing.T) {
	const most = api.MaxNodes
	for _, n := range []int{most - 1, most} {
		r := code.New(code.Node(code.Node(nil, wide(n)), wide(n)))
		for range 2 {
			if x := r.Node(); !reflect.DeepEqual(x, wide(n)) {
				t.Error("another tree:", x)
			}
		}
		whole(t, "Node", r)
		stands(t, "Steps", code.Steps(nil, []api.Step{{Sub: wide(n)}, {Sub: wide(n)}}), steps, 0)
	}
	for _, n := range []int{most + 1, most + 2, 5 * most} {
		refused(t, "Node", code.Node(nil, wide(n)), node, 32*most)
		refused(t, "Steps", inStep(2, 1, code.Node(nil, wide(n))), steps, 8+65+33+32*most)
	}
	full := api.Node{Kids: []api.Node{wide(100), wide(99)}}
	stands(t, "two rows, most", code.Node(nil, full), node, 0)
	full.Kids[0].Text = "abc"
	full.Kids = append(full.Kids, api.Node{Id: -1})
	refused(t, "two rows, one more", code.Node(nil, full), node, 32*most+3)
	early := joined(numbers(0, 0, 0, most), make([]byte, 32*(most-2)), numbers(0, 0, 32), make([]byte, 32+8)) // the last one begins at the bytes' end
	refused(t, "one more at the bytes' end", early, node, len(early))
	refused(t, "one more, broken there", append(code.Node(nil, wide(most+1))[:32*most], bytes.Repeat([]byte{0xff}, 32)...), node, 32*most)
}

// P3.2: Count, at its bounds.
func TestCount(t *testing.T) {
	for _, x := range []struct{ n, size, most, behind int }{
		{0, 1, 0, 0}, {0, 1, 5, 0}, {0, math.MaxInt, 0, 0}, {3, 1, 3, 3}, {3, 1, 9, 4}, {3, 8, 3, 24}, {3, 8, 3, 31}, {1, 20, math.MaxInt, 20},
		{3, 0, 3, 3}, {3, -1, 3, 3}, {3, math.MinInt, 3, 3}, {0, 0, 0, 0},
	} {
		b := joined(numbers(x.n), make([]byte, x.behind))
		stands(t, "Count", b, count(x.size, x.most), x.behind)
		if n := code.New(b).Count(x.size, x.most); n != x.n {
			t.Errorf("Count(%d, %d): %d; want %d", x.size, x.most, n, x.n)
		}
	}
	for _, x := range []struct{ n, size, most, behind int }{
		{-1, 1, 5, 9}, {math.MinInt, 1, math.MaxInt, 9}, {1, 1, 0, 9}, {4, 1, 3, 9}, {3, 1, 3, 2}, {3, 8, 3, 23}, {1, math.MaxInt, 9, 99},
		{0, 1, -1, 9}, {0, 1, math.MinInt, 9}, {-1, 1, -1, 9}, {1 << 61, 8, math.MaxInt, 99}, {1 << 62, 4, math.MaxInt, 99}, {math.MaxInt, 1, math.MaxInt, 99},
		{4, 0, 9, 3}, {4, -8, 9, 3}, {-1, math.MinInt, 9, 3}, {1, 0, 9, 0},
	} {
		refused(t, "Count", joined(numbers(x.n), make([]byte, x.behind)), count(x.size, x.most), 0)
	}
}

// P3.3: a byte that is left; to ask changes nothing.
func TestEnd(t *testing.T) {
	whole(t, "nothing", code.New(nil))
	whole(t, "nothing", code.New([]byte{}))
	whole(t, "the zero Reader", new(code.Reader))
	r := code.New([]byte{5, 6, 7})
	for at := range 3 {
		for range 2 {
			if got, e := r.End(); got != at || e != api.ErrWire {
				t.Errorf("End %d, %v; want %d", got, e, at)
			}
		}
		if x := r.Small(); int(x) != 5+at {
			t.Error("read", x)
		}
	}
	whole(t, "all read", r)
	whole(t, "all read", r)
	if x := r.Small(); x != 0 {
		t.Error("read", x)
	}
	fails(t, "behind the end", r, 3)
	r = new(code.Reader)
	r.Number()
	fails(t, "the zero Reader", r, 0)
}

// P3.2, P3.3: once it failed, it stays so, though things stand behind the place.
func TestFailedForGood(t *testing.T) {
	b := joined(numbers(4, -1), code.Steps(code.Node(code.Text(nil, "abc"), rich()), richSteps()))
	for _, read := range []func(r *code.Reader) any{text, count(1, 9), steps} {
		r := code.New(b)
		r.Number()
		if x := read(r); !isZero(x) {
			t.Error("read", x)
		}
		fails(t, "failed", r, 8)
	}
}

// P3.2: of a thing that fails in its midst nothing is told.
func TestNothingOfAPart(t *testing.T) {
	for place := range rawRich() {
		r := code.New(rawRich()[:place])
		if x := r.Node(); !reflect.DeepEqual(x, api.Node{}) {
			t.Error(place, x)
		}
	}
	for place := range rawRichSteps() {
		r := code.New(rawRichSteps()[:place])
		if l := r.Steps(); len(l) != 0 {
			t.Error(place, l)
		}
	}
}

// P3.2, P3.3: of nil.
func TestNil(t *testing.T) {
	var r *code.Reader
	for range 2 {
		for i, read := range []func(r *code.Reader) any{number, small, text, node, steps, count(1, 1), count(0, -1), count(math.MinInt, math.MaxInt)} {
			if x := read(r); !isZero(x) {
				t.Errorf("%d: read %v", i, x)
			}
		}
		if at, e := r.End(); at != 0 || e != api.ErrNil {
			t.Error("End:", at, e)
		}
	}
}

// spoil writes over all memory of nodes, spare room included.
func spoil(l []api.Node) {
	l = l[:cap(l)]
	for i := range l {
		spoil(l[i].Kids)
		l[i] = api.Node{Id: -99, Text: "spoilt"}
	}
}

// R4: a reader reads what the bytes were when it was made, and doesn't change them.
func TestKeepsNothing(t *testing.T) {
	for _, spare := range []int{0, 50} {
		raw := code.Steps(code.Node(code.Text(nil, "abc"), rich()), richSteps())
		room := append(bytes.Clone(raw), bytes.Repeat([]byte{'r'}, spare)...)
		b := room[:len(raw)]
		r, other := code.New(b), code.New(b)
		if s := r.Text(); s != "abc" {
			t.Error(s)
		}
		x, l := r.Node(), r.Steps()
		r.Number()
		is(t, "what was handed in", room, append(raw, bytes.Repeat([]byte{'r'}, spare)...))
		for i := range room {
			room[i] = 0xff
		}
		if !reflect.DeepEqual(x, rich()) || !reflect.DeepEqual(l, richSteps()) {
			t.Error("what was told hangs on what was handed in:", x, l)
		}
		if s := other.Text(); s != "abc" {
			t.Errorf("read %q", s)
		}
		if y, m := other.Node(), other.Steps(); !reflect.DeepEqual(y, rich()) || !reflect.DeepEqual(m, richSteps()) {
			t.Error("what is read hangs on what was handed in:", y, m)
		}
		whole(t, "other", other)
	}
}

// R4: no two lists that are told share memory.
func TestMemory(t *testing.T) {
	all := api.Node{Kids: []api.Node{rich(), rich()}}
	r := code.New(code.Steps(code.Node(code.Node(nil, all), all), richSteps()))
	x, y, l := r.Node(), r.Node(), r.Steps()
	spoil(x.Kids[0].Kids)
	if !reflect.DeepEqual(x.Kids[1], rich()) || !reflect.DeepEqual(y, all) {
		t.Error("kids share memory:", x, y)
	}
	spoil(x.Kids)
	spoil(y.Kids)
	if !reflect.DeepEqual(l, richSteps()) {
		t.Error("steps share memory with nodes:", l)
	}
	spoil(l[0].Sub.Kids)
	if !reflect.DeepEqual(l[1:], richSteps()[1:]) {
		t.Error("steps share memory:", l)
	}
	for i := range l[:cap(l)] {
		l[:cap(l)][i] = api.Step{Op: -9}
	}
	whole(t, "all", r)
}

// plain tells where the first byte is that can't stand there, by the chapter's words, one after the other.
type plain struct {
	b     []byte
	at    int
	wrong int // -1: none
}

func (p *plain) number() int {
	if p.wrong >= 0 {
		return 0
	}
	if len(p.b)-p.at < 8 {
		p.wrong = len(p.b)
		return 0
	}
	var n uint64
	for i := range 8 {
		n += uint64(p.b[p.at+i]) << (56 - 8*i)
	}
	p.at += 8
	return int(n)
}

func (p *plain) count(size, most int) int {
	at := p.at
	n := p.number()
	if p.wrong < 0 && (n < 0 || n > most || n > len(p.b) || n*size > len(p.b)-p.at) {
		p.wrong = at
	}
	if p.wrong >= 0 {
		return 0
	}
	return n
}

func (p *plain) text() {
	p.at += p.count(1, math.MaxInt)
}

func (p *plain) node(depth int, nodes *int) {
	*nodes++
	if p.wrong < 0 && (depth > 40 || *nodes > 200) {
		p.wrong = p.at
	}
	p.number()
	p.number()
	p.text()
	for k := p.count(32, math.MaxInt); k > 0 && p.wrong < 0; k-- {
		p.node(depth+1, nodes)
	}
}

func (p *plain) steps() {
	for k := p.count(57, 60); k > 0 && p.wrong < 0; k-- {
		if p.at == len(p.b) {
			p.wrong = p.at
		}
		p.at++
		p.number()
		p.number()
		p.number()
		p.text()
		p.node(1, new(int))
	}
}

// end tells what End is to tell.
func (p *plain) end() (int, api.Errno) {
	switch {
	case p.wrong >= 0:
		return p.wrong, api.ErrWire
	case p.at < len(p.b):
		return p.at, api.ErrWire
	}
	return 0, api.OK
}

// anyNode gives some tree of at most so many nodes.
func anyNode(r *rand.Rand, depth int, nodes *int) api.Node {
	*nodes--
	x := api.Node{Id: int(r.Uint64()) >> r.Intn(64), Kind: int(r.Uint64()) >> r.Intn(64), Text: anyText(r)}
	for *nodes > 0 && depth < 40 && r.Intn(3) > 0 {
		x.Kids = append(x.Kids, anyNode(r, depth+1, nodes))
	}
	return x
}

func anyText(r *rand.Rand) string {
	b := make([]byte, max(0, r.Intn(12)-6))
	r.Read(b)
	return string(b)
}

func anySteps(r *rand.Rand, most int) []api.Step {
	var l []api.Step
	for range r.Intn(most + 1) {
		nodes := r.Intn(6)
		l = append(l, api.Step{Op: int8(r.Intn(256)), Id: int(r.Uint64()) >> r.Intn(64), Parent: r.Intn(9) - 4, Place: r.Intn(9), Text: anyText(r), Sub: anyNode(r, 1, &nodes)})
	}
	return l
}

// P3.4: what was put, one behind the other, is read as it was; what is read and put again are the same bytes.
func TestPutAndRead(t *testing.T) {
	r := rand.New(rand.NewSource(3))
	for range 300 {
		var b, again []byte
		var want, got []any
		order := r.Perm(6)
		for _, k := range order {
			nodes := 1 + r.Intn(api.MaxNodes)
			n, s, x, l := int(r.Uint64())>>r.Intn(64), anyText(r), anyNode(r, 1, &nodes), anySteps(r, api.MaxSteps)
			switch k {
			case 0, 1:
				b, want = code.Number(b, n), append(want, n)
			case 2:
				b, want = code.Text(b, s), append(want, s)
			case 3, 4:
				b, want = code.Node(b, x), append(want, x)
			case 5:
				b, want = code.Steps(b, l), append(want, l)
			}
		}
		rd := code.New(b)
		for _, k := range order {
			switch k {
			case 0, 1:
				n := rd.Number()
				again, got = code.Number(again, n), append(got, n)
			case 2:
				s := rd.Text()
				again, got = code.Text(again, s), append(got, s)
			case 3, 4:
				x := rd.Node()
				again, got = code.Node(again, x), append(got, x)
			case 5:
				l := rd.Steps()
				again, got = code.Steps(again, l), append(got, l)
			}
		}
		whole(t, "all that was put", rd)
		if !reflect.DeepEqual(got, want) {
			t.Fatalf("read %v; want %v", got, want)
		}
		is(t, "put again", again, b)
	}
}

// spoilt gives bytes with some changed, cut or put in.
func spoilt(r *rand.Rand, b []byte) []byte {
	b = bytes.Clone(b)
	for range r.Intn(4) {
		switch at := r.Intn(len(b) + 1); r.Intn(4) {
		case 0:
			b = b[:at]
		case 1:
			b = slices.Insert(b, at, byte(r.Intn(256)))
		default:
			if at < len(b) {
				b[at] = []byte{0, 1, 2, 0x7f, 0xff, byte(r.Intn(256))}[r.Intn(6)]
			}
		}
	}
	return b
}

// P3.2 to P3.4: of any bytes, the first that can't stand there is told, or what is read and put again are the same bytes.
func TestAnyBytes(t *testing.T) {
	r := rand.New(rand.NewSource(4))
	wrong := 0
	for range 5000 {
		nodes := r.Intn(12)
		b := spoilt(r, code.Node(nil, anyNode(r, 1, &nodes)))
		rd, p := code.New(b), &plain{b: b, wrong: -1}
		x := rd.Node()
		p.node(1, new(int))
		at, e := rd.End()
		if wantAt, want := p.end(); at != wantAt || e != want {
			t.Fatalf("%v: End %d, %v; want %d, %v", b, at, e, wantAt, want)
		}
		if p.wrong >= 0 {
			wrong++
			fails(t, "Node", rd, p.wrong)
		} else if put := code.Node(nil, x); !bytes.Equal(put, b[:p.at]) {
			t.Fatalf("%v: put again %v", b, put)
		}

		b = spoilt(r, code.Steps(nil, anySteps(r, 5)))
		rd, p = code.New(b), &plain{b: b, wrong: -1}
		l := rd.Steps()
		p.steps()
		at, e = rd.End()
		if wantAt, want := p.end(); at != wantAt || e != want {
			t.Fatalf("%v: End %d, %v; want %d, %v", b, at, e, wantAt, want)
		}
		if p.wrong >= 0 {
			wrong++
			fails(t, "Steps", rd, p.wrong)
		} else if put := code.Steps(nil, l); !bytes.Equal(put, b[:p.at]) {
			t.Fatalf("%v: put again %v", b, put)
		}
	}
	if wrong < 1000 || wrong > 9000 {
		t.Errorf("%d of 10000 were wrong: that tells little", wrong)
	}
}
