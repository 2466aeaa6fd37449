package link

import (
	"cmp"

	"allotment/api"
)

// raise keeps n, if it is above what was kept, and tells whether it is.
func raise[N cmp.Ordered](kept *N, n N) bool {
	if n <= *kept {
		return false
	}
	*kept = n
	return true
}

// notes keeps a client's boot, if it is above what was heard of that client, and tells whether none was above it.
func (d *Door) notes(client, boot int) bool {
	greatest := d.boots[client]
	if raise(&greatest, boot) {
		if d.boots == nil { // made here, so that a zero Door takes messages, too
			d.boots = map[int]int{}
		}
		d.boots[client] = greatest
	}
	return boot == greatest
}

func isBoot(n int) bool {
	return n >= 1 && n <= api.MaxNumber
}

func isClient(n int) bool {
	return n >= 1 && n <= api.MaxClients
}
