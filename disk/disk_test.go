package disk_test

import (
	"bytes"
	"math"
	"math/rand"
	"testing"

	"allotment/api"
	"allotment/disk"
)

const last = api.MaxSectors - 1

// padded is what a sector is behind a write of b.
func padded(b []byte) []byte {
	return append(bytes.Clone(b), make([]byte, api.Sector-len(b))...)
}

// write makes a write that has to be made.
func write(t *testing.T, d *disk.Disk, n int, s string) {
	t.Helper()
	if e := d.Write(n, []byte(s)); e != api.OK {
		t.Fatalf("Write %d %q: %v", n, s, e)
	}
}

// holds checks that sector n is s, and behind it 0s.
func holds(t *testing.T, d *disk.Disk, n int, s string) {
	t.Helper()
	if b, e := d.Read(n); e != api.OK || !bytes.Equal(b, padded([]byte(s))) {
		t.Errorf("Read %d: %v, %v; want %q and 0s", n, b, e, s)
	}
}

// answers checks an error, and that the disk has made so many writes.
func answers(t *testing.T, d *disk.Disk, what string, e, want api.Errno, writes int) {
	t.Helper()
	if e != want || d.Writes() != writes {
		t.Errorf("%s: %v behind %d writes; want %v behind %d", what, e, d.Writes(), want, writes)
	}
}

// same checks that two disks tell the same of all sectors and of how many writes they made.
func same(t *testing.T, what string, a, b *disk.Disk) {
	t.Helper()
	if a.Writes() != b.Writes() {
		t.Fatalf("%s: %d writes and %d", what, a.Writes(), b.Writes())
	}
	for n := range api.MaxSectors {
		x, e := a.Read(n)
		y, f := b.Read(n)
		if e != api.OK || f != api.OK || !bytes.Equal(x, y) {
			t.Fatalf("%s: sector %d: %v, %v and %v, %v", what, n, x, e, y, f)
		}
	}
}

// isNew checks that a disk is as New gives it: up, not armed, all 0.
func isNew(t *testing.T, what string, d *disk.Disk) {
	t.Helper()
	if d == nil || d.Down() || d.Writes() != 0 {
		t.Fatalf("%s: not as a new one", what)
	}
	for n := range api.MaxSectors {
		holds(t, d, n, "")
	}
	write(t, d, 1, "x")
	holds(t, d, 1, "x")
}

func TestNew(t *testing.T) {
	isNew(t, "New", disk.New())
	isNew(t, "the zero Disk", new(disk.Disk))
}

// P1.1.
func TestWriteAndRead(t *testing.T) {
	d := disk.New()
	whole := string(bytes.Repeat([]byte("w"), api.Sector))
	for i, x := range []struct {
		n int
		s string
	}{{3, "abc"}, {0, "first"}, {last, "last"}, {5, whole}, {5, "d"}, {3, ""}, {3, "e"}, {4, "\x00\x00f"}, {4, "\x00"}, {6, ""}, {7, whole}} {
		write(t, d, x.n, x.s)
		holds(t, d, x.n, x.s)
		if d.Writes() != i+1 {
			t.Errorf("%d writes behind %d", d.Writes(), i+1)
		}
	}
	for n, s := range map[int]string{0: "first", 1: "", 3: "e", 4: "", 5: "d", 6: "", 7: whole, last: "last"} {
		holds(t, d, n, s)
	}
	if e := d.Write(8, nil); e != api.OK {
		t.Error("of nil bytes:", e)
	}
	holds(t, d, 8, "")
}

// P1.1: there is no such sector, or there are too many bytes.
func TestWriteAndReadWrongly(t *testing.T) {
	d := disk.New()
	write(t, d, 0, "a")
	write(t, d, last, "z")
	for _, n := range []int{-1, -api.MaxSectors, math.MinInt, api.MaxSectors, api.MaxSectors + 1, 1 << 32, math.MaxInt} {
		answers(t, d, "Write", d.Write(n, []byte("x")), api.ErrArg, 2)
		if b, e := d.Read(n); e != api.ErrArg || len(b) != 0 {
			t.Errorf("Read %d: %v, %v", n, b, e)
		}
	}
	for _, size := range []int{api.Sector + 1, 2 * api.Sector, 1 << 20} {
		answers(t, d, "Write of much", d.Write(0, make([]byte, size)), api.ErrArg, 2)
		answers(t, d, "Write of much nowhere", d.Write(-1, make([]byte, size)), api.ErrArg, 2)
	}
	holds(t, d, 0, "a")
	holds(t, d, last, "z")
}

// P1.1: of an armed disk, and of one that is down.
func TestWriteArmed(t *testing.T) {
	d := disk.New()
	if e := d.Arm(2); e != api.OK {
		t.Fatal(e)
	}
	write(t, d, 1, "a")
	answers(t, d, "Write nowhere", d.Write(-1, nil), api.ErrArg, 1)
	holds(t, d, 1, "a")
	write(t, d, 1, "b") // the last one: what was refused and what was read don't count
	answers(t, d, "Write nowhere, none left", d.Write(api.MaxSectors, nil), api.ErrArg, 2)
	answers(t, d, "Write of much, none left", d.Write(1, make([]byte, api.Sector+1)), api.ErrArg, 2)
	if d.Down() {
		t.Error("down ahead of the write that isn't made")
	}
	holds(t, d, 1, "b")
	answers(t, d, "Write, none left", d.Write(1, []byte("c")), api.ErrDown, 2)
	if !d.Down() {
		t.Error("up behind the write that isn't made")
	}
	answers(t, d, "Write, down", d.Write(1, []byte("d")), api.ErrDown, 2)
	answers(t, d, "Write nowhere, down", d.Write(-1, make([]byte, api.Sector+1)), api.ErrDown, 2)
	for _, n := range []int{1, -1, api.MaxSectors} {
		if b, e := d.Read(n); e != api.ErrDown || len(b) != 0 {
			t.Errorf("Read %d, down: %v, %v", n, b, e)
		}
	}
	d.Up()
	holds(t, d, 1, "b")
}

// P1.1 and R4: a disk keeps nothing that is handed in, and hands out nothing that it keeps.
func TestMemory(t *testing.T) {
	d := disk.New()
	room := []byte("abcdef")
	if e := d.Write(2, room[:3]); e != api.OK {
		t.Fatal(e)
	}
	if string(room) != "abcdef" {
		t.Errorf("handed in, and now %q", room)
	}
	room[0] = 'x'
	holds(t, d, 2, "abc")
	for range 2 {
		b, _ := d.Read(2)
		b[0] = 'y'
		_ = append(b, 'z')
	}
	holds(t, d, 2, "abc")
	b, _ := d.Read(2)
	write(t, d, 2, "new")
	if !bytes.Equal(b, padded([]byte("abc"))) {
		t.Errorf("read ahead of a write, and now %q", b)
	}
	holds(t, d.Cut(1), 2, "abc")
}

// P1.2.
func TestCut(t *testing.T) {
	d := disk.New()
	for _, s := range []string{"a", "b", "", "c"} {
		write(t, d, 3, s)
	}
	write(t, d, last, "z")
	for _, x := range []struct {
		n, writes int
		s, z      string
	}{
		{math.MinInt, 0, "", ""}, {-1, 0, "", ""}, {0, 0, "", ""}, {1, 1, "a", ""}, {2, 2, "b", ""}, {3, 3, "", ""},
		{4, 4, "c", ""}, {5, 5, "c", "z"}, {6, 5, "c", "z"}, {math.MaxInt, 5, "c", "z"},
	} {
		c := d.Cut(x.n)
		if c.Writes() != x.writes || c.Down() {
			t.Errorf("Cut %d: %d writes, down %v", x.n, c.Writes(), c.Down())
		}
		holds(t, c, 3, x.s)
		holds(t, c, last, x.z)
	}
	if d.Writes() != 5 {
		t.Errorf("%d writes of what was cut", d.Writes())
	}
	holds(t, d, 3, "c")
}

// P1.2: writes on a disk and on what was cut of it don't reach each other.
func TestCutIsAnother(t *testing.T) {
	d := disk.New()
	write(t, d, 1, "a")
	write(t, d, 2, "b")
	for n := range 3 {
		c, other := d.Cut(n), d.Cut(n)
		write(t, c, 1, "mine")
		write(t, c, 7, "more")
		if c.Writes() != n+2 || other.Writes() != n {
			t.Errorf("Cut %d: %d and %d writes", n, c.Writes(), other.Writes())
		}
		same(t, "a cut beside one that went on", d.Cut(n), other)
		same(t, "what went on, cut where it began", c.Cut(n), other)
	}
	c := d.Cut(2)
	write(t, d, 1, "later")
	holds(t, c, 1, "a")
	holds(t, d, 2, "b")
	if d.Writes() != 3 || c.Writes() != 2 {
		t.Errorf("%d and %d writes", d.Writes(), c.Writes())
	}
}

// P1.2: what is cut is up and not armed, whatever it was cut of; what it was cut of stays as it was.
func TestCutOfArmedAndDown(t *testing.T) {
	d := disk.New()
	write(t, d, 1, "a")
	d.Arm(1)
	c := d.Cut(1)
	for range 3 {
		write(t, c, 2, "b")
	}
	write(t, d, 1, "c")
	answers(t, d, "Write", d.Write(1, nil), api.ErrDown, 2)
	c = d.Cut(2)
	if c.Down() || !d.Down() || d.Writes() != 2 {
		t.Errorf("cut of a disk that is down: down %v; that one %v", c.Down(), d.Down())
	}
	holds(t, c, 1, "c")
	for range 3 {
		write(t, c, 2, "b")
	}
	if e := d.Write(1, nil); e != api.ErrDown {
		t.Error(e)
	}
}

// P1.2 and P1.3: of nil.
func TestNil(t *testing.T) {
	var d *disk.Disk
	for _, n := range []int{0, -1, api.MaxSectors} {
		if b, e := d.Read(n); e != api.ErrNil || len(b) != 0 {
			t.Error("Read:", b, e)
		}
		if e := d.Write(n, make([]byte, 2*api.Sector)); e != api.ErrNil {
			t.Error("Write:", e)
		}
		if e := d.Arm(n); e != api.ErrNil {
			t.Error("Arm:", e)
		}
		isNew(t, "Cut of nil", d.Cut(n))
	}
	if e := d.Up(); e != api.ErrNil || d.Down() || d.Writes() != 0 {
		t.Error("Up:", e, d.Down(), d.Writes())
	}
}

// P1.3: so many writes are made, and not one more.
func TestArm(t *testing.T) {
	for n := range 5 {
		d := disk.New()
		write(t, d, 0, "ahead")
		if e := d.Arm(n); e != api.OK || d.Down() {
			t.Fatal(n, e, d.Down())
		}
		for range n {
			write(t, d, 1, "armed")
		}
		if d.Down() {
			t.Errorf("armed at %d: down behind the last write", n)
		}
		for range 2 {
			answers(t, d, "Write", d.Write(2, []byte("lost")), api.ErrDown, 1+n)
			answers(t, d, "Arm", d.Arm(9), api.ErrDown, 1+n)
			answers(t, d, "Arm wrongly", d.Arm(-1), api.ErrDown, 1+n)
		}
		if !d.Down() {
			t.Errorf("armed at %d: up", n)
		}
		if e := d.Up(); e != api.OK || d.Down() {
			t.Error("Up:", e, d.Down())
		}
		holds(t, d, 2, "")
		for range n + 3 { // not armed any more
			write(t, d, 2, "anew")
		}
	}
}

// P1.3: the bounds, and a disk that is armed already.
func TestArmAnew(t *testing.T) {
	d := disk.New()
	for _, n := range []int{-1, math.MinInt, 1<<30 + 1, math.MaxInt} {
		answers(t, d, "Arm, never armed", d.Arm(n), api.ErrArg, 0)
	}
	write(t, d, 0, "a")
	answers(t, d, "Arm at none", d.Arm(0), api.OK, 1)
	answers(t, d, "Arm at the most", d.Arm(1<<30), api.OK, 1)
	write(t, d, 0, "b")
	answers(t, d, "Arm at less", d.Arm(1), api.OK, 2)
	for _, n := range []int{-1, 1<<30 + 1} {
		answers(t, d, "Arm wrongly", d.Arm(n), api.ErrArg, 2)
	}
	write(t, d, 0, "c")
	answers(t, d, "Write", d.Write(0, nil), api.ErrDown, 3)
}

// P1.3: Up of a disk that isn't down.
func TestUpOfArmed(t *testing.T) {
	d := disk.New()
	d.Arm(0)
	for range 2 {
		answers(t, d, "Up", d.Up(), api.OK, 0)
	}
	write(t, d, 0, "a")
	holds(t, d, 0, "a")
	if d.Down() {
		t.Error("down")
	}
}

// P1.4: any writes, with refused ones and ones that were not made between, against a row of the writes that were made.
func TestAnyWrites(t *testing.T) {
	r := rand.New(rand.NewSource(1))
	places := []int{0, 1, 2, api.Half, api.Half + 1, last}
	for range 20 {
		d := disk.New()
		shown := []map[int][]byte{{}} // behind each number of writes
		for range 60 {
			if r.Intn(8) == 0 {
				d.Arm(r.Intn(4) - 1)
			}
			n, b := places[r.Intn(len(places))]-r.Intn(2), make([]byte, r.Intn(api.Sector+3))
			if r.Intn(4) > 0 {
				r.Read(b)
			}
			if d.Write(n, b) == api.OK {
				now := map[int][]byte{n: padded(b)}
				for k, v := range shown[len(shown)-1] {
					if k != n {
						now[k] = v
					}
				}
				shown = append(shown, now)
			}
			if d.Down() && r.Intn(2) == 0 {
				d.Up()
			}
		}
		if d.Writes() != len(shown)-1 {
			t.Fatalf("%d writes were made, and %d told", len(shown)-1, d.Writes())
		}
		for k, want := range shown {
			shows(t, d.Cut(k), k, want)
		}
		d.Up()
		same(t, "Cut of all writes", d, d.Cut(d.Writes()))
	}
}

// shows checks a disk that was cut behind k writes, all sectors of it.
func shows(t *testing.T, d *disk.Disk, k int, want map[int][]byte) {
	t.Helper()
	if d.Writes() != k {
		t.Fatalf("%d writes behind a cut at %d", d.Writes(), k)
	}
	for n := range api.MaxSectors {
		w := want[n]
		if w == nil {
			w = make([]byte, api.Sector)
		}
		if b, e := d.Read(n); e != api.OK || !bytes.Equal(b, w) {
			t.Fatalf("cut at %d: sector %d: %v, %v; want %v", k, n, b, e, w)
		}
	}
}

// P1.4: Cut of Cut is Cut of the lesser one.
func TestCutOfCut(t *testing.T) {
	d := disk.New()
	for _, s := range []string{"a", "b", "", "c", "d"} {
		write(t, d, len(s), s)
		write(t, d, last, s)
	}
	for n := -1; n <= d.Writes()+1; n++ {
		for m := -1; m <= d.Writes()+1; m++ {
			same(t, "Cut of Cut", d.Cut(n).Cut(m), d.Cut(min(n, m)))
		}
	}
}
