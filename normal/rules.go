package normal

import "allotment/api"

// rule is one of the chapter's: of which Ops two neighbours are that fit it, what else makes them fit, and which of them stays, if any.
type rule struct {
	ahead, behind int8
	fit           func(a, b *held) bool
	stays         func(a, b *held) *held
}

func rules() [4]rule {
	return [...]rule{
		{api.StText, api.StText, sameId, second},
		{api.StInsert, api.StDelete, root, none},
		{api.StMove, api.StMove, sameId, second},
		{api.StInsert, api.StText, inserted, texted},
	}
}

// put tells whether two neighbours fit a rule, and which of them stays, or nil.
func put(a, b *held) (stays *held, ok bool) {
	for _, r := range rules() {
		if a.Op == r.ahead && b.Op == r.behind && r.fit(a, b) {
			return r.stays(a, b), true
		}
	}
	return nil, false
}

func sameId(a, b *held) bool {
	return a.Id == b.Id
}

// root tells whether b goes by the id of the root of what a inserts.
func root(a, b *held) bool {
	return a.Sub.Id == b.Id
}

// inserted tells whether b goes by an id of what a inserts.
func inserted(a, b *held) bool {
	_, ok := a.named()[b.Id]
	return ok
}

func second(_, b *held) *held {
	return b
}

func none(_, _ *held) *held {
	return nil
}

// texted gives a with b's text.
func texted(a, b *held) *held {
	a.texts = append(a.texts, b.Step)
	return a
}
