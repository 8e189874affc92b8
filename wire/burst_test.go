package wire_test

import (
	"math/rand"
	"testing"

	"gavelhouse/api"
	"gavelhouse/wire"
)

const frameBits = 8 * api.FrameSize

// turned: a frame with bits of a pattern turned, from a place on, each byte's lowest bit first.
func turned(s string, at int, pattern uint32) string {
	b := []byte(s)
	for i := range 32 {
		if pattern>>i&1 == 1 {
			b[(at+i)/8] ^= 1 << ((at + i) % 8)
		}
	}
	return string(b)
}

// patterns of a row of n bits whose first and last are turned: all, the ends alone, and some by chance.
func patterns(r *rand.Rand, n int) []uint32 {
	whole := uint32(1)<<n - 1
	ends := uint32(1) | 1<<(n-1)
	return []uint32{whole, ends, r.Uint32()&whole | ends, r.Uint32()&whole | ends}
}

func TestTurnedBitIsSeen(t *testing.T) {
	for _, a := range goodAsks() {
		s := encoded(t, a)
		for at := range frameBits {
			wantDecode(t, turned(s, at, 1), api.ErrSum)
		}
	}
}

func TestTurnedRowIsSeen(t *testing.T) {
	r := rand.New(rand.NewSource(3))
	for _, a := range goodAsks() {
		s := encoded(t, a)
		for n := 1; n <= 32; n++ {
			for at := 0; at+n <= frameBits; at++ {
				for _, p := range patterns(r, n) {
					wantDecode(t, turned(s, at, p), api.ErrSum)
				}
			}
		}
	}
}

// shift: what a turned bit does to the difference between a frame's own sum and the sum of its body.
func shift(s string, at int) uint32 {
	return difference(turned(s, at, 1)) ^ difference(s)
}

func difference(s string) uint32 {
	own := uint32(s[26]) | uint32(s[27])<<8 | uint32(s[28])<<16 | uint32(s[29])<<24
	return own ^ wire.Sum(s[:26])
}

// Shifts add up bit by bit; so if no choice of 32 in a row comes to 0, no pattern of all 2^32 is missed.
func TestEveryRowOf32IsSeen(t *testing.T) {
	s := encoded(t, topPlace)
	for at := 0; at+32 <= frameBits; at++ {
		var l []uint32
		for i := range 32 {
			l = append(l, shift(s, at+i))
		}
		if n := rank(l); n != 32 {
			t.Errorf("from bit %d: only %d of 32 shifts are free of each other", at, n)
		}
	}
}

func TestShiftsAddUp(t *testing.T) {
	r := rand.New(rand.NewSource(4))
	s := encoded(t, topPlace)
	for range 2000 {
		at, p := r.Intn(frameBits-31), r.Uint32()
		sum := uint32(0)
		for i := range 32 {
			if p>>i&1 == 1 {
				sum ^= shift(s, at+i)
			}
		}
		if got := difference(turned(s, at, p)) ^ difference(s); got != sum {
			t.Fatalf("bits %x from %d: %x, their shifts come to %x", p, at, got, sum)
		}
	}
}

// rank over bits: how many of a list are no sums of others.
func rank(l []uint32) int {
	var leads [32]uint32
	n := 0
	for _, x := range l {
		for bit := 31; bit >= 0 && x != 0; bit-- {
			if x>>bit&1 == 0 {
				continue
			}
			if leads[bit] == 0 {
				leads[bit] = x
				n++
				break
			}
			x ^= leads[bit]
		}
	}
	return n
}
