package code_test

import (
	"bytes"
	"math"
	"reflect"
	"runtime/debug"
	"slices"
	"strings"
	"testing"

	"allotment/api"
	"allotment/code"
)

// numbers gives numbers one behind the other, by the chapter: 8 bytes each, two's complement, the highest first.
func numbers(l ...int) []byte {
	var b []byte
	for _, n := range l {
		for i := range 8 {
			b = append(b, byte(uint64(n)>>(56-8*i)))
		}
	}
	return b
}

// joined gives pieces in new memory.
func joined(pieces ...[]byte) []byte {
	return bytes.Join(pieces, nil)
}

// is checks bytes.
func is(t *testing.T, what string, b, want []byte) {
	t.Helper()
	if !bytes.Equal(b, want) {
		t.Errorf("%s: %v; want %v", what, b, want)
	}
}

// whole checks that a reader has read all.
func whole(t *testing.T, what string, r *code.Reader) {
	t.Helper()
	if at, e := r.End(); at != 0 || e != api.OK {
		t.Errorf("%s: End %d, %v", what, at, e)
	}
}

// wide gives a tree of so many nodes, all but one of them the root's kids.
func wide(nodes int) api.Node {
	x := api.Node{Id: 1}
	for k := range nodes - 1 {
		x.Kids = append(x.Kids, api.Node{Id: 2 + k})
	}
	return x
}

// deep gives a tree of that depth, one node each, and leaves behind the one that goes on.
func deep(depth, leaves int) api.Node {
	x := api.Node{Id: depth}
	for d := depth - 1; d > 0; d-- {
		kids := []api.Node{x}
		for range leaves {
			kids = append(kids, api.Node{Id: -d})
		}
		x = api.Node{Id: d, Kids: kids}
	}
	return x
}

// rich gives a tree with all that there can be, in memory of its own, and rawRich its bytes.
func rich() api.Node {
	return api.Node{Id: 7, Kind: 1, Text: "ab", Kids: []api.Node{{Id: -8, Kids: []api.Node{{Id: math.MinInt, Kind: math.MaxInt}}}, {Kind: -2, Text: "\xff\x00"}}}
}

func rawRich() []byte {
	return joined(
		numbers(7, 1, 2), []byte("ab"), numbers(2),
		numbers(-8, 0, 0, 1),
		numbers(math.MinInt, math.MaxInt, 0, 0),
		numbers(0, -2, 2), []byte("\xff\x00"), numbers(0))
}

func richSteps() []api.Step {
	return []api.Step{
		{Op: api.StInsert, Parent: 1, Place: 2, Sub: rich()},
		{},
		{Op: math.MinInt8, Id: -1, Parent: -2, Place: math.MinInt, Text: "t", Sub: api.Node{Text: "u"}},
		{Op: math.MaxInt8, Id: math.MaxInt},
	}
}

func rawRichSteps() []byte {
	return joined(
		numbers(4),
		[]byte{1}, numbers(0, 1, 2, 0), rawRich(),
		[]byte{0}, numbers(0, 0, 0, 0, 0, 0, 0, 0),
		[]byte{0x80}, numbers(-1, -2, math.MinInt, 1), []byte("t"), numbers(0, 0, 1), []byte("u"), numbers(0),
		[]byte{0x7f}, numbers(math.MaxInt, 0, 0, 0, 0, 0, 0, 0))
}

// The chapter's examples.
func TestExamples(t *testing.T) {
	is(t, "Text", code.Text(nil, "ab"), []byte{0, 0, 0, 0, 0, 0, 0, 2, 97, 98})
	for size, place := range map[int]int{7: 7, 9: 8} {
		r := code.New(make([]byte, size))
		if n := r.Number(); n != 0 {
			t.Error(size, n)
		}
		if at, e := r.End(); at != place || e != api.ErrWire {
			t.Error(size, at, e)
		}
	}
}

// P3.1: numbers of both signs, the least and the greatest.
func TestNumber(t *testing.T) {
	for n, want := range map[int]string{
		0:              "\x00\x00\x00\x00\x00\x00\x00\x00",
		1:              "\x00\x00\x00\x00\x00\x00\x00\x01",
		-1:             "\xff\xff\xff\xff\xff\xff\xff\xff",
		-2:             "\xff\xff\xff\xff\xff\xff\xff\xfe",
		127:            "\x00\x00\x00\x00\x00\x00\x00\x7f",
		128:            "\x00\x00\x00\x00\x00\x00\x00\x80",
		-128:           "\xff\xff\xff\xff\xff\xff\xff\x80",
		256:            "\x00\x00\x00\x00\x00\x00\x01\x00",
		1<<32 - 1:      "\x00\x00\x00\x00\xff\xff\xff\xff",
		-1 << 31:       "\xff\xff\xff\xff\x80\x00\x00\x00",
		0x010203040506: "\x00\x00\x01\x02\x03\x04\x05\x06",
		api.MaxNumber:  "\x00\x04\x00\x00\x00\x00\x00\x00",
		math.MaxInt:    "\x7f\xff\xff\xff\xff\xff\xff\xff",
		math.MinInt:    "\x80\x00\x00\x00\x00\x00\x00\x00",
	} {
		is(t, "Number", code.Number(nil, n), []byte(want))
		r := code.New([]byte(want))
		if got := r.Number(); got != n {
			t.Errorf("read %d; want %d", got, n)
		}
		whole(t, "Number", r)
	}
}

// P3.2: all bytes are small numbers.
func TestSmall(t *testing.T) {
	var b []byte
	for n := math.MinInt8; n <= math.MaxInt8; n++ {
		b = append(b, byte(n))
	}
	r := code.New(b)
	for n := math.MinInt8; n <= math.MaxInt8; n++ {
		if got := r.Small(); int(got) != n {
			t.Errorf("read %d; want %d", got, n)
		}
	}
	whole(t, "Small", r)
}

// P3.1, P3.2: texts of any bytes, of none, and long ones.
func TestText(t *testing.T) {
	for _, s := range []string{"", "a", "\x00", "\xff\xfe\x80", "gr\u00fc\u00df", strings.Repeat("x", api.MaxWord+1), strings.Repeat("yz", api.MaxBytes)} {
		b := code.Text(nil, s)
		is(t, "Text", b, joined(numbers(len(s)), []byte(s)))
		r := code.New(b)
		if got := r.Text(); got != s {
			t.Errorf("read %q; want %q", got, s)
		}
		whole(t, "Text", r)
	}
}

// P3.1, P3.2: byte for byte.
func TestNodeAndSteps(t *testing.T) {
	is(t, "Node", code.Node(nil, rich()), rawRich())
	is(t, "zero Node", code.Node(nil, api.Node{}), make([]byte, 32))
	is(t, "Node of no kids", code.Node(nil, api.Node{Kids: []api.Node{}}), make([]byte, 32))
	is(t, "Steps", code.Steps(nil, richSteps()), rawRichSteps())
	is(t, "no Steps", code.Steps(nil, nil), make([]byte, 8))
	is(t, "Steps of none", code.Steps(nil, []api.Step{}), make([]byte, 8))
	is(t, "zero Step", code.Steps(nil, make([]api.Step, 1)), joined(numbers(1), make([]byte, 65)))

	r := code.New(joined(rawRich(), make([]byte, 32), rawRichSteps(), make([]byte, 8), rawRich()))
	for i, want := range []api.Node{rich(), {}} {
		if x := r.Node(); !reflect.DeepEqual(x, want) {
			t.Errorf("%d: read %v; want %v", i, x, want)
		}
	}
	if l := r.Steps(); !reflect.DeepEqual(l, richSteps()) {
		t.Errorf("read %v; want %v", l, richSteps())
	}
	if l := r.Steps(); len(l) != 0 {
		t.Errorf("read %v; want none", l)
	}
	if x := r.Node(); !reflect.DeepEqual(x, rich()) {
		t.Errorf("read %v; want %v", x, rich())
	}
	whole(t, "Node and Steps", r)
}

// P3.1: of any, beyond what can be read, too.
func TestPutOfAny(t *testing.T) {
	is(t, "Steps", code.Steps(nil, make([]api.Step, api.MaxSteps+1)), joined(numbers(api.MaxSteps+1), make([]byte, 65*(api.MaxSteps+1))))
	want := numbers(1, 0, 0, 1000)
	for k := range 1000 {
		want = append(want, numbers(2+k, 0, 0, 0)...)
	}
	is(t, "many nodes", code.Node(nil, wide(1001)), want)
}

// rawDeep gives the bytes of what deep gives.
func rawDeep(depth, leaves int) []byte {
	var b []byte
	for d := 1; d < depth; d++ {
		b = append(b, numbers(d, 0, 0, 1+leaves)...)
	}
	b = append(b, numbers(depth, 0, 0, 0)...)
	for d := depth - 1; d > 0; d-- {
		for range leaves {
			b = append(b, numbers(-d, 0, 0, 0)...)
		}
	}
	return b
}

// R1: trees as deep as they are big, on a stack that doesn't bear as many calls.
func TestDeep(t *testing.T) {
	defer debug.SetMaxStack(debug.SetMaxStack(1 << 18))
	for _, depth := range []int{1, 2, 40, 41, 100, 100_000} {
		for leaves := range 3 {
			want := rawDeep(depth, leaves)
			if !bytes.Equal(code.Node(nil, deep(depth, leaves)), want) {
				t.Errorf("Node of depth %d, %d leaves: other bytes", depth, leaves)
			}
			step := joined(numbers(2), []byte{1}, numbers(0, 0, 0, 0), want, []byte{2}, numbers(0, 0, 0, 0), want)
			if !bytes.Equal(code.Steps(nil, []api.Step{{Op: 1, Sub: deep(depth, leaves)}, {Op: 2, Sub: deep(depth, leaves)}}), step) {
				t.Errorf("Steps of depth %d, %d leaves: other bytes", depth, leaves)
			}
		}
	}
	r := code.New(rawDeep(100_000, 1))
	if x := r.Node(); !reflect.DeepEqual(x, api.Node{}) {
		t.Error("read", x)
	}
	if at, e := r.End(); at != 40*32 || e != api.ErrWire {
		t.Error(at, e)
	}
}

// puts are the calls that put, each of a thing, and its bytes.
func puts() map[string]struct {
	put  func(b []byte) []byte
	want []byte
} {
	return map[string]struct {
		put  func(b []byte) []byte
		want []byte
	}{
		"Number":     {func(b []byte) []byte { return code.Number(b, -3) }, numbers(-3)},
		"Text":       {func(b []byte) []byte { return code.Text(b, "abc") }, joined(numbers(3), []byte("abc"))},
		"empty Text": {func(b []byte) []byte { return code.Text(b, "") }, numbers(0)},
		"Node":       {func(b []byte) []byte { return code.Node(b, rich()) }, rawRich()},
		"Steps":      {func(b []byte) []byte { return code.Steps(b, richSteps()) }, rawRichSteps()},
		"no Steps":   {func(b []byte) []byte { return code.Steps(b, nil) }, numbers(0)},
	}
}

// P3.1, R4: what was there stands ahead; it is neither changed, spare room included, nor shared.
func TestPutBehind(t *testing.T) {
	for what, x := range puts() {
		for _, size := range []int{0, 1, 5, 1000} {
			for _, spare := range []int{0, 1, 8, 40, 4000} {
				room := bytes.Repeat([]byte{'r'}, size+spare)
				b := room[:size]
				want := joined(b, x.want)
				got := x.put(b)
				is(t, what, got, want)
				again := x.put(b)
				for i := range got {
					got[i] = 's'
				}
				_ = append(got, 's')
				is(t, what+", what was handed in", room, bytes.Repeat([]byte{'r'}, size+spare))
				clear(room)
				is(t, what+", put again", again, want)
			}
		}
		is(t, what+" behind nil", x.put(nil), x.want)
	}
}

// P3.1, R4: what is put is not changed, spare room included.
func TestPutChangesNothing(t *testing.T) {
	l := slices.Grow(richSteps(), 3)
	l[:len(l)+1][len(l)].Id = 7
	kids := slices.Grow(rich().Kids, 3)
	kids[:len(kids)+1][len(kids)].Id = 7
	l[0].Sub.Kids = kids
	is(t, "Steps", code.Steps(nil, l), rawRichSteps())
	is(t, "Node", code.Node(nil, l[0].Sub), rawRich())
	if !reflect.DeepEqual(l, richSteps()) || l[:len(l)+1][len(l)].Id != 7 || kids[:len(kids)+1][len(kids)].Id != 7 {
		t.Error("what was handed in is changed:", l, kids)
	}
}
