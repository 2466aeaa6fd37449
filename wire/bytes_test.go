package wire_test

import (
	"bytes"
	"math"
	"reflect"
	"slices"
	"testing"

	"allotment/api"
	"allotment/code"
	"allotment/sums"
	"allotment/wire"
)

// P14.2: the bytes of each kind, one by one.
func TestBytes(t *testing.T) {
	const server, number, lease, epoch = 11, 12, 13, 14
	client := func(kind int8) api.Message { return api.Message{Kind: kind, From: 2, Boot: 10, Server: server} }
	of := func(kind int8) api.Message { return api.Message{Kind: kind, To: 8, Server: server} }
	hello, ask, grant, deny, commit := of(api.MsgHello), client(api.MsgAsk), of(api.MsgGrant), of(api.MsgDeny), client(api.MsgCommit)
	ask.Number, ask.Node = number, 15
	grant.Number, grant.Lease, grant.Epoch, grant.Version, grant.Tree = number, lease, epoch, 16, bough()
	deny.Number, deny.E = number, api.ErrConflict
	commit.Number, commit.Lease, commit.Epoch, commit.Steps = number, lease, epoch, steps()
	done, refuse, delta, resync, whole := of(api.MsgDone), of(api.MsgRefuse), of(api.MsgDelta), client(api.MsgResync), of(api.MsgTree)
	done.Number, done.Version = number, 16
	refuse.Number, refuse.E = number, 999
	delta.Version, delta.Steps = 16, steps()
	whole.Version, whole.Tree = 0, bough()
	for at, c := range []struct {
		m   api.Message
		own []byte
	}{
		{hello, joined([]byte{1}, numbers(0, 8, 11))},
		{ask, joined([]byte{2}, numbers(2, 0, 10, 11, 12, 15))},
		{grant, joined([]byte{3}, numbers(0, 8, 11, 12, 13, 14, 16), rawBough())},
		{deny, joined([]byte{4}, numbers(0, 8, 11, 12, 163))},
		{commit, joined([]byte{5}, numbers(2, 0, 10, 11, 12, 13, 14), rawSteps())},
		{done, joined([]byte{6}, numbers(0, 8, 11, 12, 16))},
		{refuse, joined([]byte{7}, numbers(0, 8, 11, 12, 999))},
		{delta, joined([]byte{8}, numbers(0, 8, 11, 16), rawSteps())},
		{resync, joined([]byte{9}, numbers(2, 0, 10, 11))},
		{whole, joined([]byte{10}, numbers(0, 8, 11, 0), rawBough())},
	} {
		if b, e := wire.Bytes(c.m); e != api.OK || !bytes.Equal(b, sums.Seal(c.own)) {
			t.Errorf("%d: %v, %v; want %v", at, b, e, sums.Seal(c.own))
		}
		if m, at, e := wire.Read(sums.Seal(c.own)); at != 0 || e != api.OK || !reflect.DeepEqual(m, c.m) {
			t.Errorf("%v: read %v, %d, %v", c.m, m, at, e)
		}
	}
}

// P14.2: of no bytes, and of few.
func TestReadFew(t *testing.T) {
	for size := range 40 {
		for _, x := range []byte{0, 1, 9, 10, 255} {
			b := bytes.Repeat([]byte{x}, size)
			if !bytes.Equal(b, make([]byte, 4)) { // those are sealed: the sum of no bytes
				unread(t, "not sealed", b, 0, api.ErrWire)
			}
		}
	}
	unread(t, "nil", nil, 0, api.ErrWire)
	unread(t, "none, sealed", sums.Seal(nil), 0, api.ErrWire)
	unread(t, "none, sealed twice", sums.Seal(sums.Seal(nil)), 0, api.ErrWire)
}

// P14.2: ErrLong of more than MaxBytes bytes, ahead of all else, and not of just as many.
func TestReadLong(t *testing.T) {
	own := raw(good(api.MsgResync))
	for _, size := range []int{api.MaxBytes - 1, api.MaxBytes} {
		unread(t, "zeros", make([]byte, size), 0, api.ErrWire)
		long := joined(own, make([]byte, size-4-len(own)))
		unread(t, "sealed, with bytes left over", sums.Seal(long), len(own), api.ErrWire)
		long[0] = 11
		unread(t, "sealed, no kind", sums.Seal(long), 0, api.ErrWire)
	}
	for _, size := range []int{api.MaxBytes + 1, api.MaxBytes + 2, 3 * api.MaxBytes, 1 << 20} {
		unread(t, "zeros", make([]byte, size), 0, api.ErrLong)
		unread(t, "sealed", sums.Seal(joined(own, make([]byte, size-4-len(own)))), 0, api.ErrLong)
	}
}

// P14.2: what is not sealed is ErrWire at 0, whatever is in it.
func TestReadUnsealed(t *testing.T) {
	for kind := first; kind <= last; kind++ {
		own := raw(good(kind))
		b := sums.Seal(own)
		unread(t, "no sum", own, 0, api.ErrWire)
		unread(t, "sealed twice", sums.Seal(b), len(own), api.ErrWire)
		unread(t, "the sum ahead", joined(b[len(own):], own), 0, api.ErrWire)
		unread(t, "the sum turned about", joined(own, []byte{b[len(own)+3], b[len(own)+2], b[len(own)+1], b[len(own)]}), 0, api.ErrWire)
		unread(t, "another sum", joined(own, sums.Seal(own[1:])[len(own)-1:]), 0, api.ErrWire)
		unread(t, "one byte more", append(slices.Clone(b), 0), 0, api.ErrWire)
		unread(t, "left over, unsealed", joined(own, make([]byte, 9), b[len(own):]), 0, api.ErrWire)
	}
}

// P14.2: a first byte that is no kind is ErrWire at 0, whatever is behind it.
func TestReadNoKind(t *testing.T) {
	for x := range 256 {
		if int8(x) >= first && int8(x) <= last {
			continue
		}
		for kind := first; kind <= last; kind++ {
			own := raw(good(kind))
			own[0] = byte(x)
			unread(t, "no kind", sums.Seal(own), 0, api.ErrWire)
			unread(t, "no kind, cut off", sums.Seal(own[:9]), 0, api.ErrWire)
			unread(t, "no kind, left over", sums.Seal(append(own, 0)), 0, api.ErrWire)
		}
		unread(t, "no kind, alone", sums.Seal([]byte{byte(x)}), 0, api.ErrWire)
	}
}

// read tells by the chapter's table, and by code, what bytes are, whether it may be or not, or at which byte they can't go on.
func read(own []byte) (m api.Message, at int, e api.Errno) {
	r := code.New(own)
	m.Kind, m.From, m.To = r.Small(), r.Number(), r.Number()
	for _, name := range fields(m.Kind) {
		switch name {
		case "Steps":
			m.Steps = r.Steps()
		case "Tree":
			m.Tree = r.Node()
		default:
			number(&m, name).SetInt(int64(r.Number()))
		}
	}
	at, e = r.End()
	return m, at, e
}

// P14.2: bytes that end in the midst of each field, and such as are left over, sealed.
func TestReadCutOff(t *testing.T) {
	for kind := first; kind <= last; kind++ {
		own := raw(good(kind))
		for size := 1; size < len(own); size++ {
			_, at, e := read(own[:size])
			if e != api.ErrWire || at > size {
				t.Fatal(kind, size, at, e)
			}
			unread(t, "cut off", sums.Seal(own[:size]), at, e)
		}
		for more := 1; more < 40; more++ {
			unread(t, "left over", sums.Seal(joined(own, make([]byte, more))), len(own), api.ErrWire)
			unread(t, "left over, again", sums.Seal(joined(own, own[:min(more, len(own))])), len(own), api.ErrWire)
		}
	}
}

// P14.2: where bytes can't go on, told one by one.
func TestReadWhere(t *testing.T) {
	tree, delta := joined([]byte{10}, numbers(0, 8, 11, 0)), joined([]byte{8}, numbers(0, 8, 11, 16))
	step := joined([]byte{2}, numbers(4, 0, 0, 0), numbers(0, 0, 0, 0))
	const head = 33 // bytes ahead of the tree or the steps
	for what, c := range map[string]struct {
		own []byte
		at  int
	}{
		"the kind alone":            {[]byte{9}, 1},
		"in From":                   {[]byte{9, 0, 0}, 3},
		"behind From":               {joined([]byte{9}, numbers(1)), 9},
		"in the last number":        {joined([]byte{9}, numbers(2, 0, 1))[:24], 24},
		"ahead of the last number":  {joined([]byte{9}, numbers(2, 0, 1)), 25},
		"one byte left":             {joined([]byte{9}, numbers(2, 0, 1, 0), []byte{0}), 33},
		"no tree":                   {tree, head},
		"the root's text's count":   {joined(tree, numbers(1, 0, 9), make([]byte, 8)), head + 16},
		"the count below 0":         {joined(tree, numbers(1, 0, -1), make([]byte, 90)), head + 16},
		"the kids' count":           {joined(tree, numbers(1, 0, 0, 1), make([]byte, 31)), head + 24},
		"the kids' count, great":    {joined(tree, numbers(1, 0, 0, math.MaxInt), make([]byte, 64)), head + 24},
		"the kids' count, below 0":  {joined(tree, numbers(1, 0, 0, -1), make([]byte, 64)), head + 24},
		"a kid's kids":              {joined(tree, numbers(1, 0, 0, 1, 2, 0, 0, 1)), head + 56},
		"a tree, and a byte":        {joined(tree, numbers(1, 0, 0, 0), []byte{7}), head + 32},
		"one node too many":         {joined(tree, rawNode(fan(1, api.MaxNodes+1))), head + 32*api.MaxNodes},
		"by far too deep":           {joined(tree, rawNode(line(1, api.MaxDepth+9))), head + 32*(api.MaxDepth+8)},
		"no steps":                  {delta, head},
		"the steps' count, great":   {joined(delta, numbers(2), step), head},
		"the steps' count, below 0": {joined(delta, numbers(-1), step), head},
		"one step too many":         {joined(delta, numbers(api.MaxSteps+1), bytes.Repeat(step, api.MaxSteps+1)), head},
		"in a step":                 {joined(delta, numbers(1), step[:64]), head + 8 + 64},
		"a step's text's count":     {joined(delta, numbers(1, 0, 0, 0, 99), make([]byte, 90)), head + 8 + 25},
		"steps, and a byte":         {joined(delta, numbers(1), step, []byte{0}), head + 8 + 65},
		"a Sub of too many nodes":   {joined(delta, numbers(1), step[:33], rawNode(fan(1, api.MaxNodes+1))), head + 8 + 33 + 32*api.MaxNodes},
		"a Sub by far too deep":     {joined(delta, numbers(1), step[:33], rawNode(line(1, api.MaxDepth+9))), head + 8 + 33 + 32*(api.MaxDepth+8)},
		"too early, though wrong":   {joined([]byte{9}, numbers(-5, -5, -5)), 25},
		"left over, though wrong":   {joined([]byte{9}, numbers(-5, -5, -5, -5), []byte{0}), 33},
	} {
		unread(t, what, sums.Seal(c.own), c.at, api.ErrWire)
	}
}

// P14.2: what can be read, but may not be, is ErrWire at 0; the fields are asked in their tests, too.
func TestReadMayNot(t *testing.T) {
	tree, delta, grant := good(api.MsgTree), good(api.MsgDelta), good(api.MsgGrant)
	for what, m := range map[string]api.Message{
		"a tree too deep by 1":      {Tree: line(1, api.MaxDepth+1)},
		"a tree too deep by 8":      {Tree: line(1, api.MaxDepth+8)},
		"an id of 0":                {Tree: node(1, node(0))},
		"an id too great":           {Tree: node(api.MaxNumber + 1)},
		"a kind below 0":            {Tree: api.Node{Id: 1, Kind: -1}},
		"a kind too great":          {Tree: api.Node{Id: 1, Kind: api.MaxKinds + 1}},
		"a text too long":           {Tree: api.Node{Id: 1, Text: string(make([]byte, api.MaxWord+1))}},
		"the zero tree":             {},
		"a step that is none":       {Steps: make([]api.Step, 1)},
		"a Sub of a delete":         {Steps: row(api.Step{Op: api.StDelete, Id: 1, Sub: api.Node{Kind: 1}})},
		"a Sub too deep":            {Steps: row(insert(1, 0, line(1, api.MaxDepth+1)))},
		"too many nodes together":   {Steps: row(insert(1, 0, fan(1, api.MaxNodes)), insert(1, 0, node(1)))},
		"a Place below 0":           {Steps: row(move(1, 2, -1))},
		"a step's text, too long":   {Steps: row(write(1, string(make([]byte, api.MaxWord+1))))},
		"a text of an insert":       {Steps: row(api.Step{Op: api.StInsert, Parent: 1, Text: "a", Sub: node(2)})},
		"the last one of many":      {Steps: append(slices.Repeat(row(remove(1)), api.MaxSteps-1), remove(0))},
		"an Op below 0":             {Steps: row(api.Step{Op: -1, Id: 1})},
		"fields of an Op not named": {Steps: row(api.Step{Op: api.StText, Id: 1, Parent: 1})},
	} {
		if len(m.Steps) > 0 {
			delta.Steps = m.Steps
			refused(t, what, delta, true)
			continue
		}
		tree.Tree, grant.Tree = m.Tree, m.Tree
		refused(t, what, tree, true)
		refused(t, what, grant, true)
	}
}

// P14.3: a bit or a byte turned, anywhere: no message, told at 0.
func TestReadTurned(t *testing.T) {
	for kind := first; kind <= last; kind++ {
		b, e := wire.Bytes(good(kind))
		if e != api.OK {
			t.Fatal(kind, e)
		}
		for at := range b {
			for bit := range 8 {
				c := slices.Clone(b)
				c[at] ^= 1 << bit
				unread(t, "a bit turned", c, 0, api.ErrWire)
			}
			for _, x := range []byte{0, 1, 255} {
				if c := slices.Clone(b); c[at] != x {
					c[at] = x
					unread(t, "a byte turned", c, 0, api.ErrWire)
				}
			}
		}
	}
}

// P14.3: bytes missing at the end, at the beginning, or in the midst.
func TestReadMissing(t *testing.T) {
	for kind := first; kind <= last; kind++ {
		b, _ := wire.Bytes(good(kind))
		for at := range b {
			unread(t, "missing at the end", b[:at], 0, api.ErrWire)
			unread(t, "missing at the beginning", b[at+1:], 0, api.ErrWire)
			if at+1 < len(b) && b[at] != b[at+1] { // of two that are the same either one may be the one
				unread(t, "missing in the midst", slices.Delete(slices.Clone(b), at, at+1), 0, api.ErrWire)
			}
		}
	}
}
