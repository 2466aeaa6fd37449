package code

import (
	"math"
	"slices"

	"allotment/api"
)

const (
	numberSize = 8
	leastNode  = 4 * numberSize   // bytes of a node without text and kids
	leastStep  = 57               // what the chapter counts for a step; the smallest one has 65 bytes, so a count that stands may still fail at the bytes' end
	deepest    = api.MaxDepth + 8 // a node may stand somewhat deeper than in a tree that conforms
)

// Reader goes over bytes from the left, up to the first one that can't stand there. A zero Reader is one of no bytes.
type Reader struct {
	data   []byte
	at     int // the next byte; of a reader that failed, the one that can't stand there
	failed bool
}

// New gives a reader of b as it is now (P3.2).
func New(b []byte) *Reader {
	return &Reader{data: slices.Clone(b)}
}

// Number reads a number (P3.2).
func (r *Reader) Number() int {
	return told(r, r.number)
}

// Small reads a small number (P3.2).
func (r *Reader) Small() int8 {
	return told(r, r.small)
}

// Text reads a text (P3.2).
func (r *Reader) Text() string {
	return told(r, r.text)
}

// Node reads a node with all below it (P3.2).
func (r *Reader) Node() api.Node {
	return told(r, r.node)
}

// Steps reads steps (P3.2).
func (r *Reader) Steps() []api.Step {
	return told(r, r.steps)
}

// Count reads how many things follow, of at least size bytes each (a size below 1 is 1), at most most of them (P3.2).
func (r *Reader) Count(size, most int) int {
	return told(r, func() int { return r.count(max(size, 1), most) })
}

// End tells whether all was read: the first byte that can't stand there, or that is left, and ErrWire, if there is one (P3.3).
func (r *Reader) End() (int, api.Errno) {
	switch {
	case r == nil:
		return 0, api.ErrNil
	case r.failed || r.at < len(r.data):
		return r.at, api.ErrWire
	}
	return 0, api.OK
}

// told gives what next reads, whole; zero, if r is nil, failed before, or fails meanwhile.
func told[T any](r *Reader, next func() T) (thing T) {
	if r == nil || r.failed {
		return thing
	}
	defer func() {
		if r.failed {
			recover()
		}
	}()
	return next()
}

// fail leaves all that is being read, up to told.
func (r *Reader) fail(at int) {
	r.at, r.failed = at, true
	panic(api.ErrWire)
}

// take gives the next bytes, which stay the reader's.
func (r *Reader) take(size int) []byte {
	if size > len(r.data)-r.at {
		r.fail(len(r.data))
	}
	r.at += size
	return r.data[r.at-size : r.at]
}

func (r *Reader) number() int {
	n := 0
	for _, x := range r.take(numberSize) {
		n = n<<8 | int(x)
	}
	return n
}

func (r *Reader) small() int8 {
	return int8(r.take(1)[0])
}

// count fails at its own first byte, so that nobody goes about so many things in vain. Size must be at least 1.
func (r *Reader) count(size, most int) int {
	at := r.at
	n := r.number()
	if n < 0 || n > most || n > (len(r.data)-r.at)/size {
		r.fail(at)
	}
	return n
}

func (r *Reader) text() string {
	return string(r.take(r.count(1, math.MaxInt)))
}

func (r *Reader) node() api.Node {
	nodes := 0
	var below func(depth int) api.Node
	below = func(depth int) api.Node {
		nodes++
		if depth > deepest || nodes > api.MaxNodes {
			r.fail(r.at)
		}
		var x api.Node
		x.Id = r.number()
		x.Kind = r.number()
		x.Text = r.text()
		kids := r.count(leastNode, math.MaxInt)
		x.Kids = list(kids, func() api.Node { return below(depth + 1) })
		return x
	}
	return below(1)
}

func (r *Reader) steps() []api.Step {
	return list(r.count(leastStep, api.MaxSteps), r.step)
}

func (r *Reader) step() api.Step {
	var s api.Step
	s.Op = r.small()
	s.Id = r.number()
	s.Parent = r.number()
	s.Place = r.number()
	s.Text = r.text()
	s.Sub = r.node()
	return s
}

// list reads n things. It takes no room for what isn't read yet: the count is only what somebody says.
func list[T any](n int, next func() T) []T {
	var l []T
	for range n {
		l = append(l, next())
	}
	return l
}
