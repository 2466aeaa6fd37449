package lease

// pairs are ordered pairs: a key, and what is told of it. No two have the same key.
type pairs[K comparable, V any] map[K]V

// note tells that value of each key of which nothing is told yet.
func (p pairs[K, V]) note(value V, keys ...K) {
	for _, key := range keys {
		if _, told := p[key]; !told {
			p[key] = value
		}
	}
}

// keep forgets all pairs but those whose keys stay.
func (p pairs[K, V]) keep(stays func(K) bool) {
	for key := range p {
		if !stays(key) {
			delete(p, key)
		}
	}
}
