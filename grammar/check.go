package grammar

import "allotment/api"

// mayBe tells whether g may be. The names come last: there are few of them by then, and none is long.
func mayBe(g api.Grammar) bool {
	count := len(g.Kinds)
	if count > api.MaxKinds || g.Root < 0 || g.Root >= count {
		return false
	}
	for _, k := range g.Kinds {
		if !kindMayBe(k, count) {
			return false
		}
	}
	return len(places(g.Kinds)) == count
}

// kindMayBe tells whether k may be one of so many kinds, whatever the others' names are.
func kindMayBe(k api.Kind, count int) bool {
	if len(k.Name) < 1 || len(k.Name) > api.MaxWord || len(k.Slots) > api.MaxSlots {
		return false
	}
	for _, s := range k.Slots {
		if !slotMayBe(s, count) {
			return false
		}
	}
	return true
}

// slotMayBe tells whether s may be a slot, if there are so many kinds. Kinds that there are, and that rise, are never more than MaxKinds.
func slotMayBe(s api.Slot, count int) bool {
	last := -1
	for _, kind := range s.Kinds {
		if kind <= last || kind >= count {
			return false
		}
		last = kind
	}
	return len(s.Kinds) > 0 && s.Least >= 0 && s.Least <= s.Most && s.Most <= api.MaxMany
}

// places gives the kind of each name. It has fewer names than there are kinds, if two of them have the same one.
func places(kinds []api.Kind) map[string]int {
	named := make(map[string]int, len(kinds))
	for kind, k := range kinds {
		named[k.Name] = kind
	}
	return named
}
