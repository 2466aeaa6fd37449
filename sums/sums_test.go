package sums_test

import (
	"bytes"
	"fmt"
	"math/rand"
	"slices"
	"strings"
	"testing"

	"allotment/api"
	"allotment/sums"
)

// plain gives the sum of b by the chapter's words, bit by bit.
func plain(b []byte) uint32 {
	remainder := uint32(0xffffffff)
	for _, x := range b {
		remainder ^= uint32(x)
		for range 8 {
			if remainder&1 == 1 {
				remainder = remainder>>1 ^ 0x82f63b78
			} else {
				remainder >>= 1
			}
		}
	}
	return remainder ^ 0xffffffff
}

// sealed gives b and its sum by the chapter's words, in new memory.
func sealed(b []byte) []byte {
	n := plain(b)
	return append(bytes.Clone(b), byte(n>>24), byte(n>>16), byte(n>>8), byte(n))
}

// anyBytes gives so many bytes, some of them alike.
func anyBytes(r *rand.Rand, size int) []byte {
	b := make([]byte, size)
	r.Read(b)
	for i := range b {
		if r.Intn(4) == 0 {
			b[i] = []byte{0, 0xff}[r.Intn(2)]
		}
	}
	return b
}

// things are bytes with their sums, those that are known from elsewhere, too.
func things() map[string]uint32 {
	rising, falling := make([]byte, 32), make([]byte, 32)
	for i := range 32 {
		rising[i], falling[i] = byte(i), byte(31-i)
	}
	return map[string]uint32{
		"":                         0,
		"123456789":                0xe3069283,
		"a":                        0xc1d04330,
		"\x00":                     0x527d5351,
		"\xff":                     0xff000000,
		"\xff\xff\xff\xff":         0xffffffff, // the remainder comes to 0
		strings.Repeat("\x00", 32): 0x8a9136aa,
		strings.Repeat("\xff", 32): 0x62a8ab43,
		string(rising):             0x46dd794e,
		string(falling):            0x113fdb5c,
	}
}

// P4.1, and the chapter's example.
func TestSum(t *testing.T) {
	for s, want := range things() {
		if n := sums.Sum([]byte(s)); n != want {
			t.Errorf("Sum(%q): %08x; want %08x", s, n, want)
		}
	}
	if n := sums.Sum(nil); n != 0 {
		t.Errorf("Sum(nil): %08x", n)
	}
}

// P4.1: each byte alone, and each behind another one.
func TestSumOfFew(t *testing.T) {
	for x := range 256 {
		b := []byte{byte(x)}
		if n := sums.Sum(b); n != plain(b) {
			t.Errorf("Sum(%x): %08x; want %08x", b, n, plain(b))
		}
		for y := range 256 {
			b := []byte{byte(x), byte(y)}
			if n := sums.Sum(b); n != plain(b) {
				t.Errorf("Sum(%x): %08x; want %08x", b, n, plain(b))
			}
		}
	}
}

// P4.1: of many bytes, and bytes of 0 count.
func TestSumOfMany(t *testing.T) {
	r := rand.New(rand.NewSource(1))
	for _, size := range []int{3, 4, 5, 63, 64, 65, 255, 256, 257, 1000, api.MaxRecord, api.MaxBytes, api.MaxBytes + 1, 1 << 20} {
		for _, b := range [][]byte{anyBytes(r, size), make([]byte, size), bytes.Repeat([]byte{0xff}, size)} {
			if n := sums.Sum(b); n != plain(b) {
				t.Errorf("Sum of %d bytes: %08x; want %08x", size, n, plain(b))
			}
		}
	}
	seen := map[uint32]int{}
	for size := range 100 {
		n := sums.Sum(make([]byte, size))
		if other, ok := seen[n]; ok {
			t.Errorf("Sum of %d and of %d bytes of 0: %08x", other, size, n)
		}
		seen[n] = size
	}
}

// P4.1: behind nothing, nothing behind it, and behind sums at the edges.
func TestMore(t *testing.T) {
	for s, want := range things() {
		if n := sums.More(0, []byte(s)); n != want {
			t.Errorf("More(0, %q): %08x; want %08x", s, n, want)
		}
		all := append([]byte("\xff\xff\xff\xff"), s...) // the sum of the first four is FFFFFFFF
		if n := sums.More(0xffffffff, []byte(s)); n != plain(all) {
			t.Errorf("More(FFFFFFFF, %q): %08x; want %08x", s, n, plain(all))
		}
		for _, none := range [][]byte{nil, {}} {
			if n := sums.More(want, none); n != want {
				t.Errorf("More(%08x, none): %08x", want, n)
			}
		}
	}
	for _, n := range []uint32{0, 1, 0x7fffffff, 0x80000000, 0xfffffffe, 0xffffffff} {
		if more := sums.More(n, nil); more != n {
			t.Errorf("More(%08x, nil): %08x", n, more)
		}
	}
}

// P4.3: in two pieces, cut everywhere, and in three.
func TestPieces(t *testing.T) {
	r := rand.New(rand.NewSource(2))
	for size := range 80 {
		b := anyBytes(r, size)
		want := plain(b)
		for i := range size + 1 {
			if n := sums.More(sums.Sum(b[:i]), b[i:]); n != want {
				t.Errorf("%x, cut at %d: %08x; want %08x", b, i, n, want)
			}
			for k := i; k <= min(size, i+3); k++ {
				if n := sums.More(sums.More(sums.Sum(b[:i]), b[i:k]), b[k:]); n != want {
					t.Errorf("%x, cut at %d and %d: %08x; want %08x", b, i, k, n, want)
				}
			}
		}
	}
}

// P4.3: in many pieces, byte by byte, and empty ones among them.
func TestManyPieces(t *testing.T) {
	r := rand.New(rand.NewSource(3))
	for range 300 {
		b := anyBytes(r, r.Intn(3000))
		n, byByte := uint32(0), sums.Sum(nil)
		for at := 0; at < len(b); {
			next := min(len(b), at+r.Intn(1+r.Intn(500)))
			n = sums.More(n, b[at:next])
			at = next
		}
		for i := range b {
			byByte = sums.More(sums.More(byByte, b[i:i]), b[i:i+1])
		}
		if want := plain(b); n != want || byByte != want {
			t.Errorf("%d bytes: %08x, %08x; want %08x", len(b), n, byByte, want)
		}
	}
}

// P4.2, and the chapter's example.
func TestSeal(t *testing.T) {
	for _, none := range [][]byte{nil, {}} {
		if b := sums.Seal(none); !bytes.Equal(b, []byte{0, 0, 0, 0}) {
			t.Errorf("Seal(none): %x", b)
		}
	}
	if b := sums.Seal([]byte("123456789")); string(b) != "123456789\xe3\x06\x92\x83" {
		t.Errorf("Seal(123456789): %x", b)
	}
	r := rand.New(rand.NewSource(4))
	for size := range 300 {
		b := anyBytes(r, size)
		if got := sums.Seal(b); !bytes.Equal(got, sealed(b)) {
			t.Errorf("Seal(%x): %x; want %x", b, got, sealed(b))
		}
	}
}

// opens checks that b is sealed, and what as.
func opens(t *testing.T, b, want []byte) {
	t.Helper()
	if own, ok := sums.Open(b); !ok || !bytes.Equal(own, want) {
		t.Errorf("Open(%x): %x, %v; want %x", b, own, ok, want)
	}
}

// refused checks that b isn't sealed.
func refused(t *testing.T, b []byte) {
	t.Helper()
	if own, ok := sums.Open(b); ok || len(own) != 0 {
		t.Errorf("Open(%x): %x, %v; want none", b, own, ok)
	}
}

// P4.2, P4.3: what was sealed, once and again.
func TestOpen(t *testing.T) {
	r := rand.New(rand.NewSource(5))
	for _, size := range []int{0, 1, 2, 3, 4, 5, 31, 255, 1000, api.MaxBytes, api.MaxBytes + 1} {
		for _, b := range [][]byte{anyBytes(r, size), make([]byte, size), bytes.Repeat([]byte{0xff}, size)} {
			opens(t, sealed(b), b)
			opens(t, sums.Seal(b), b)
			opens(t, sums.Seal(sums.Seal(b)), sums.Seal(b))
		}
	}
	opens(t, []byte{0, 0, 0, 0}, nil)
	opens(t, []byte("123456789\xe3\x06\x92\x83"), []byte("123456789"))
}

// P4.2: fewer than 4 bytes, of any kind.
func TestOpenOfFew(t *testing.T) {
	refused(t, nil)
	for size := range 4 {
		refused(t, make([]byte, size))
		refused(t, bytes.Repeat([]byte{0xff}, size))
		refused(t, sums.Seal(nil)[:size])
		refused(t, sums.Seal([]byte("a"))[:size])
		refused(t, sums.Seal([]byte("a"))[5-size:])
	}
}

// P4.2: bytes with another thing's sum, with one in another order, with a byte left or put in.
func TestOpenOfUnsealed(t *testing.T) {
	refused(t, []byte("123456789\x83\x92\x06\xe3"))
	refused(t, []byte("\xe3\x06\x92\x83123456789"))
	refused(t, []byte("123456789\x1c\xf9\x6d\x7c")) // the remainder, not turned about
	refused(t, []byte("123456789\xcb\xf4\x39\x26")) // another polynomial's sum
	refused(t, []byte{0xff, 0xff, 0xff, 0xff})
	refused(t, []byte{1, 0, 0, 0})
	r := rand.New(rand.NewSource(6))
	for size := range 60 {
		b := sums.Seal(append([]byte{1}, anyBytes(r, size)...))
		for i := range b {
			refused(t, slices.Delete(bytes.Clone(b), i, i+1))
		}
		refused(t, append([]byte{0}, b...))
		refused(t, append([]byte{0xff}, b...))
		refused(t, append(bytes.Clone(b), 0xff))
		opens(t, b, b[:size+1])
	}
}

// bits are changed bits: how far each is behind the first one.
type bits []int

// changed gives b with bits changed, counted from b's begin on, each byte's lowest one first: so the sum takes them.
func changed(b []byte, first int, l bits) []byte {
	b = bytes.Clone(b)
	for _, k := range l {
		b[(first+k)/8] ^= 1 << ((first + k) % 8)
	}
	return b
}

// anyBits gives some bits, of 32 one behind the other, the first one among them.
func anyBits(r *rand.Rand) bits {
	l := bits{0}
	for k := 1; k < 32; k++ {
		if r.Intn(2) == 0 {
			l = append(l, k)
		}
	}
	return l
}

// rows are rows of changed bits: one, each two, all of some length, and some.
func rows(r *rand.Rand) []bits {
	l := []bits{{0}}
	all := bits{0}
	for k := 1; k < 32; k++ {
		all = append(all, k)
		l = append(l, bits{0, k}, slices.Clone(all))
	}
	for range 50 {
		l = append(l, anyBits(r))
	}
	return l
}

// P4.3: bits are changed, of 32 one behind the other: ahead of the sum, and in it.
func TestChanged(t *testing.T) {
	r := rand.New(rand.NewSource(7))
	for _, size := range []int{0, 1, 2, 3, 4, 5, 6, 16} {
		b := sums.Seal(anyBytes(r, size))
		for _, l := range rows(r) {
			span := slices.Max(l)
			for first := 0; first+span < 8*size; first++ {
				refused(t, changed(b, first, l))
			}
			for first := 8 * size; first+span < 8*len(b); first++ {
				refused(t, changed(b, first, l))
			}
		}
		opens(t, b, b[:size])
	}
}

// P4.3: one bit of long bytes, wherever it is.
func TestChangedInLong(t *testing.T) {
	r := rand.New(rand.NewSource(8))
	b := sums.Seal(anyBytes(r, 500))
	for first := range 8 * len(b) {
		refused(t, changed(b, first, bits{0}))
	}
	long := sums.Seal(anyBytes(r, api.MaxBytes))
	for range 50 {
		refused(t, changed(long, r.Intn(8*api.MaxBytes-31), anyBits(r)))
		refused(t, changed(long, r.Intn(8*len(long)), bits{0}))
	}
}

// P4.2: of any bytes, those alone are opened that are sealed by the chapter's words.
func TestAnyBytes(t *testing.T) {
	r := rand.New(rand.NewSource(9))
	opened := 0
	for range 5000 {
		b := sealed(anyBytes(r, r.Intn(20)))
		for range r.Intn(3) {
			b[r.Intn(len(b))] ^= byte(r.Intn(256))
		}
		b = b[:len(b)-r.Intn(1+r.Intn(2))]
		if len(b) >= 4 && bytes.Equal(sealed(b[:len(b)-4]), b) {
			opened++
			opens(t, b, b[:len(b)-4])
		} else {
			refused(t, b)
		}
	}
	if opened < 500 || opened > 4500 {
		t.Errorf("%d of 5000 were sealed: that tells little", opened)
	}
}

// R4: what is handed in is not changed, spare room behind it included.
func TestChangesNothing(t *testing.T) {
	for _, size := range []int{0, 1, 4, 50} {
		for _, spare := range []int{0, 1, 3, 4, 5, 100} {
			whole := sums.Seal(bytes.Repeat([]byte{'w'}, size))
			for _, own := range [][]byte{whole, bytes.Repeat([]byte{'r'}, size)} {
				room := append(bytes.Clone(own), bytes.Repeat([]byte{'s'}, spare)...)
				want := bytes.Clone(room)
				b := room[:len(own)]
				sums.Sum(b)
				sums.More(5, b)
				sums.Seal(b)
				sums.Open(b)
				if !bytes.Equal(room, want) {
					t.Errorf("%x became %x", want, room)
				}
			}
		}
	}
}

// spoil writes over bytes, spare room behind them included.
func spoil(b []byte) {
	b = b[:cap(b)]
	for i := range b {
		b[i] ^= 0xa5
	}
}

// R4: what is told shares no memory with what was handed in, or with what is told again.
func TestMemory(t *testing.T) {
	for size := range 20 {
		for _, spare := range []int{0, 1, 4, 64} {
			own := bytes.Repeat([]byte{'o'}, size)
			for what, call := range map[string]func(b []byte) []byte{
				"Seal": sums.Seal,
				"Open": func(b []byte) []byte { o, _ := sums.Open(b); return o },
			} {
				in, want := own, sealed(own)
				if what == "Open" {
					in, want = sealed(own), own
				}
				room := append(bytes.Clone(in), make([]byte, spare)...)
				before := bytes.Clone(room)
				first, again := call(room[:len(in)]), call(room[:len(in)])
				spoil(first)
				if !bytes.Equal(room, before) || !bytes.Equal(again, want) {
					t.Errorf("%s of %x: what is told shares memory", what, in)
				}
				spoil(room)
				if !bytes.Equal(again, want) {
					t.Errorf("%s of %x: what is told hangs on what was handed in", what, in)
				}
			}
		}
	}
}

// R3: what is called in between tells nothing.
func TestHangsOnNothingElse(t *testing.T) {
	r := rand.New(rand.NewSource(10))
	for range 200 {
		b := anyBytes(r, r.Intn(40))
		want := fmt.Sprint(plain(b), sealed(b))
		sums.Sum(anyBytes(r, r.Intn(40)))
		sums.Open(anyBytes(r, r.Intn(40)))
		if got := fmt.Sprint(sums.Sum(b), sums.Seal(b)); got != want {
			t.Errorf("%x: %s; want %s", b, got, want)
		}
	}
}
