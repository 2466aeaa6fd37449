// Package disk is layer 1, the server's disk: see shared/doc/01-disk.md.
package disk

import "allotment/api"

// maxArm is the most writes that a disk can be armed at.
const maxArm = 1 << 30

// sector is an array, so that it is copied whole and can be held against another one.
type sector [api.Sector]byte

// write is one that was made: which sector, and what it is from then on.
type write struct {
	place int
	data  sector
}

// Disk has sectors, and all writes that made them what they are. A zero Disk is a new one.
type Disk struct {
	sectors map[int]sector // those alone that aren't all 0
	writes  []write
	armed   bool
	left    int // how many writes an armed disk still makes
	down    bool
}

// New gives a disk whose sectors are all 0 (P1.2).
func New() *Disk {
	return &Disk{}
}

// Write puts b, and 0s behind it, into sector n (P1.1).
func (d *Disk) Write(n int, b []byte) api.Errno {
	if e := d.ready(); e != api.OK {
		return e
	}
	if !isSector(n) || len(b) > api.Sector {
		return api.ErrArg
	}
	if d.armed && d.left == 0 {
		d.down = true
		return api.ErrDown
	}
	if d.armed {
		d.left--
	}
	w := write{place: n}
	copy(w.data[:], b)
	d.put(w)
	return api.OK
}

// Read gives sector n (P1.1).
func (d *Disk) Read(n int) ([]byte, api.Errno) {
	if e := d.ready(); e != api.OK {
		return nil, e
	}
	if !isSector(n) {
		return nil, api.ErrArg
	}
	s := d.sectors[n] // a copy of the disk's own, so that the caller may change it
	return s[:], api.OK
}

// Writes tells how many writes were made (P1.2).
func (d *Disk) Writes() int {
	if d == nil {
		return 0
	}
	return len(d.writes)
}

// Cut gives another disk, as this one was behind its first n writes (P1.2).
func (d *Disk) Cut(n int) *Disk {
	other := New()
	replay := func(made []write) {
		for _, w := range made {
			other.put(w)
		}
	}
	if d != nil {
		replay(d.writes[:min(max(n, 0), len(d.writes))])
	}
	return other
}

// Arm lets n more writes be made; at the one behind them the disk goes down (P1.3).
func (d *Disk) Arm(n int) api.Errno {
	if e := d.ready(); e != api.OK {
		return e
	}
	if n < 0 || n > maxArm {
		return api.ErrArg
	}
	d.armed, d.left = true, n
	return api.OK
}

// Up ends that the disk is down or armed (P1.3).
func (d *Disk) Up() api.Errno {
	if d == nil {
		return api.ErrNil
	}
	d.down, d.armed, d.left = false, false, 0
	return api.OK
}

// Down tells whether the disk is down (P1.3).
func (d *Disk) Down() bool {
	return d != nil && d.down
}

// ready tells why nothing can be done with the disk, or OK.
func (d *Disk) ready() api.Errno {
	switch {
	case d == nil:
		return api.ErrNil
	case d.down:
		return api.ErrDown
	}
	return api.OK
}

// put makes a write. A sector that comes to all 0s leaves the map, where what isn't there is 0s.
func (d *Disk) put(w write) {
	d.writes = append(d.writes, w)
	if w.data == (sector{}) {
		delete(d.sectors, w.place)
		return
	}
	if d.sectors == nil {
		d.sectors = map[int]sector{}
	}
	d.sectors[w.place] = w.data
}

// isSector tells whether there is a sector n.
func isSector(n int) bool {
	return n >= 0 && n < api.MaxSectors
}
