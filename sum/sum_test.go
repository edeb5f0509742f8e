package sum_test

import (
	"bytes"
	"math"
	"math/rand"
	"testing"

	"offprint/sum"
)

// slow is a sum, moved step by step.
func slow(s uint32, n int) uint32 {
	for range 8 * n {
		odd := s&1 == 1
		s /= 2
		if odd {
			s ^= 0x82f63b78
		}
	}
	return s
}

func some(r *rand.Rand, n int) []byte {
	b := make([]byte, n)
	r.Read(b)
	return b
}

// P2.1
func TestOf(t *testing.T) {
	if got := sum.Of([]byte("123456789")); got != 0xe3069283 {
		t.Errorf("Of = %x", got)
	}
	if got := sum.Of(nil); got != 0 {
		t.Errorf("Of no bytes = %x", got)
	}
	r := rand.New(rand.NewSource(2))
	for n := range 70 {
		b := some(r, n)
		want := ^uint32(0)
		for _, c := range b {
			want = slow(want^uint32(c), 1)
		}
		if got := sum.Of(b); got != ^want {
			t.Errorf("Of %v = %x, want %x", b, got, ^want)
		}
	}
}

// P2.1
func TestJoin(t *testing.T) {
	r := rand.New(rand.NewSource(3))
	for _, n := range []int{0, 1, 2, 3, 4, 5, 7, 8, 31, 32, 33, 255, 256, 1000, 4097, 65535, 1<<20 - 1, 1 << 20} {
		a, b := r.Uint32(), r.Uint32()
		if got, want := sum.Join(a, b, n), slow(a, n)^b; got != want {
			t.Errorf("Join(%x, %x, %d) = %x, want %x", a, b, n, got, want)
		}
	}
	for _, n := range []int{-1, 1<<20 + 1, math.MinInt, math.MaxInt} {
		if got := sum.Join(7, 9, n); got != 0 {
			t.Errorf("Join of %d = %x", n, got)
		}
	}
}

// P2.2
func TestSealAndOpen(t *testing.T) {
	room := []byte("123456789and more behind")
	before := bytes.Clone(room)
	sealed := sum.Seal(room[:9])
	if want := []byte("123456789\x83\x92\x06\xe3"); !bytes.Equal(sealed, want) || !bytes.Equal(room, before) {
		t.Errorf("Seal = %v", sealed)
	}
	got, ok := sum.Open(sealed)
	if !ok || string(got) != "123456789" {
		t.Errorf("Open = %q, %v", got, ok)
	}
	got[0] = 'x'
	if sealed[0] != '1' {
		t.Errorf("Open shares its answer's bytes with its argument")
	}
	if got, ok := sum.Open(sum.Seal(nil)); !ok || len(got) != 0 {
		t.Errorf("Open of the seal of nothing = %v, %v", got, ok)
	}
	for _, b := range [][]byte{nil, {0}, {0, 0, 0}, {1, 0, 0, 0}, sealed[:12], append(bytes.Clone(sealed), 0)} {
		if got, ok := sum.Open(b); ok || got != nil {
			t.Errorf("Open of %v = %v, %v", b, got, ok)
		}
	}
}

// P2.3
func TestOfIsJoin(t *testing.T) {
	r := rand.New(rand.NewSource(4))
	for range 200 {
		a, b := some(r, r.Intn(40)), some(r, r.Intn(400))
		if sum.Of(append(bytes.Clone(a), b...)) != sum.Join(sum.Of(a), sum.Of(b), len(b)) {
			t.Errorf("the sum of %v and %v", a, b)
		}
	}
}

// P2.4
func TestTurnedBitsAreTold(t *testing.T) {
	r := rand.New(rand.NewSource(5))
	for range 3000 {
		b := sum.Seal(some(r, r.Intn(20)))
		at, turned := r.Intn(len(b)-3), 0
		for i := range 4 {
			x := byte(r.Intn(256)) & byte(r.Intn(256))
			b[at+i] ^= x
			turned += int(x)
		}
		if _, ok := sum.Open(b); ok != (turned == 0) {
			t.Fatalf("Open told %v of bytes of which bits were turned", ok)
		}
	}
	b := sum.Seal([]byte("abc"))
	for i := range len(b) * 8 {
		b[i/8] ^= 1 << (i % 8)
		if _, ok := sum.Open(b); ok {
			t.Errorf("the bit %d turned is not told", i)
		}
		b[i/8] ^= 1 << (i % 8)
	}
}
