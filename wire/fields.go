package wire

import "allotment/api"

// hand is what is done with a message's fields. What it gives of a field stands there from then on.
type hand interface {
	number(n, least, most int) int
	steps(l []api.Step) []api.Step
	tree(t api.Node) api.Node
}

// pass hands fields of m to by, each by a method of its own.
type pass struct {
	m  *api.Message
	by hand
}

// over hands all fields that m's kind has to by, in the order in which they are bytes. The kind must be one; it is handed to nobody.
func over(m *api.Message, by hand) {
	p := pass{m, by}
	p.from()
	p.to()
	for _, field := range p.fields()[m.Kind] {
		field()
	}
}

// fields gives what each kind has besides From and To, in order; there is none at 0.
func (p pass) fields() [api.MsgTree + 1][]func() {
	return [...][]func(){
		api.MsgHello:  {p.server},
		api.MsgAsk:    {p.boot, p.server, p.number, p.node},
		api.MsgGrant:  {p.server, p.number, p.lease, p.epoch, p.version, p.tree},
		api.MsgDeny:   {p.server, p.number, p.e},
		api.MsgCommit: {p.boot, p.server, p.number, p.lease, p.epoch, p.steps},
		api.MsgDone:   {p.server, p.number, p.version},
		api.MsgRefuse: {p.server, p.number, p.e},
		api.MsgDelta:  {p.server, p.version, p.steps},
		api.MsgResync: {p.boot, p.server},
		api.MsgTree:   {p.server, p.version, p.tree},
	}
}

func isKind(kind int8) bool {
	return api.MsgHello <= kind && kind <= api.MsgTree
}

// ofClient tells whether a client sends messages of that kind; else the server does.
func ofClient(kind int8) bool {
	switch kind {
	case api.MsgAsk, api.MsgCommit, api.MsgResync:
		return true
	}
	return false
}

func (p pass) from() {
	p.m.From = p.party(p.m.From, ofClient(p.m.Kind))
}

func (p pass) to() {
	p.m.To = p.party(p.m.To, !ofClient(p.m.Kind))
}

// party hands over who it is: a client, or else the server, which is 0.
func (p pass) party(who int, client bool) int {
	if client {
		return p.by.number(who, 1, api.MaxClients)
	}
	return p.by.number(who, 0, 0)
}

func (p pass) boot() {
	p.m.Boot = p.by.number(p.m.Boot, 1, api.MaxNumber)
}

// server: a client may not know the server's boot yet, which is 0 then.
func (p pass) server() {
	least := 1
	if ofClient(p.m.Kind) {
		least = 0
	}
	p.m.Server = p.by.number(p.m.Server, least, api.MaxNumber)
}

func (p pass) number() {
	p.m.Number = p.by.number(p.m.Number, 1, api.MaxNumber)
}

func (p pass) node() {
	p.m.Node = p.by.number(p.m.Node, 1, api.MaxNumber)
}

func (p pass) lease() {
	p.m.Lease = p.by.number(p.m.Lease, 1, api.MaxNumber)
}

func (p pass) epoch() {
	p.m.Epoch = p.by.number(p.m.Epoch, 1, api.MaxNumber)
}

func (p pass) version() {
	p.m.Version = p.by.number(p.m.Version, 0, api.MaxNumber)
}

func (p pass) e() {
	p.m.E = api.Errno(p.by.number(int(p.m.E), 1, mostErrno))
}

func (p pass) steps() {
	p.m.Steps = p.by.steps(p.m.Steps)
}

func (p pass) tree() {
	p.m.Tree = p.by.tree(p.m.Tree)
}
