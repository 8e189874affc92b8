package ration_test

import (
	"math"
	"slices"
	"testing"

	"gavelhouse/ration"
)

// seeds at the edges of 32 bits, and some between.
var seeds = []uint32{0, 1, 2, 3, 12345, 1 << 15, 1 << 16, 1 << 19, 1 << 31, 1<<31 - 1, 2463534242, math.MaxUint32 - 1, math.MaxUint32}

// lengths that are asked for, and what comes.
var lengths = []struct{ n, come int }{
	{math.MinInt, 0}, {math.MinInt + 1, 0}, {-1000, 0}, {-1, 0}, {0, 0},
	{1, 1}, {2, 2}, {3, 3}, {11, 11}, {120, 120}, {999, 999}, {1000, 1000},
	{1001, 1000}, {1002, 1000}, {1 << 32, 1000}, {math.MaxInt - 1, 1000}, {math.MaxInt, 1000},
}

// numbers of a seed, by products and parts, made without the program.
func numbers(seed uint32, n int) []uint32 {
	const all = 1 << 32
	x := uint64(seed)
	if x == 0 {
		x = 2463534242
	}
	var l []uint32
	for range n {
		x ^= x * 8192 % all
		x ^= x / 131072
		x ^= x * 32 % all
		l = append(l, uint32(x))
	}
	return l
}

// order of a seed, made without the program.
func order(n int, seed uint32) []int {
	var l []int
	for len(l) < n {
		l = append(l, len(l))
	}
	drawn := numbers(seed, n)
	for i := n - 1; i >= 1; i-- {
		k := int(drawn[0]) % (i + 1)
		l[i], l[k] = l[k], l[i]
		drawn = drawn[1:]
	}
	return l
}

func TestStreamIsKnown(t *testing.T) {
	for _, c := range []struct {
		seed uint32
		want []uint32
	}{
		{1, []uint32{270369, 67634689, 2647435461, 307599695}},
		{2463534242, []uint32{723471715, 2497366906, 2064144800}},
		{0, []uint32{723471715, 2497366906, 2064144800}},
		{1 << 31, []uint32{1<<31 | 1<<14 | 1<<19}},
	} {
		if got := ration.Stream(c.seed, len(c.want)); !slices.Equal(got, c.want) {
			t.Errorf("Stream(%d) = %v, want %v", c.seed, got, c.want)
		}
	}
}

func TestStream(t *testing.T) {
	for _, seed := range seeds {
		all := numbers(seed, 1000)
		for _, c := range lengths {
			if got := ration.Stream(seed, c.n); !slices.Equal(got, all[:c.come]) {
				t.Errorf("Stream(%d, %d) = %v, want %v", seed, c.n, got, all[:c.come])
			}
		}
	}
}

func TestShuffleIsKnown(t *testing.T) {
	for _, c := range []struct {
		n    int
		seed uint32
		want []int
	}{
		{1, 1, []int{0}},
		// 270369 is odd
		{2, 1, []int{0, 1}},
		// 723471715 is odd too, 2^31 + 2^14 + 2^19 is even
		{2, 0, []int{0, 1}},
		{2, 1 << 31, []int{1, 0}},
		// 270369 leaves 0 of 3, 67634689 leaves 1 of 2
		{3, 1, []int{2, 1, 0}},
		// 270369 leaves 1 of 4, 67634689 leaves 1 of 3, 2647435461 leaves 1 of 2
		{4, 1, []int{0, 2, 3, 1}},
	} {
		got := ration.Shuffle(c.n, c.seed)
		if !slices.Equal(got, c.want) {
			t.Errorf("Shuffle(%d, %d) = %v, want %v", c.n, c.seed, got, c.want)
		}
	}
}

func TestShuffle(t *testing.T) {
	for _, seed := range seeds {
		for _, c := range lengths {
			if got, want := ration.Shuffle(c.n, seed), order(c.come, seed); !slices.Equal(got, want) {
				t.Errorf("Shuffle(%d, %d) = %v, want %v", c.n, seed, got, want)
			}
		}
	}
}

// Each number is there, and once.
func TestShuffleHasAll(t *testing.T) {
	for seed := range uint32(40) {
		for n := range 130 {
			l := ration.Shuffle(n, seed)
			slices.Sort(l)
			for i, x := range l {
				if x != i {
					t.Fatalf("Shuffle(%d, %d) has, sorted: %v", n, seed, l)
				}
			}
			if len(l) != n {
				t.Fatalf("Shuffle(%d, %d) has %d", n, seed, len(l))
			}
		}
	}
}

func TestAnswersAreNewMemory(t *testing.T) {
	for range 2 {
		s, o := ration.Stream(7, 9), ration.Shuffle(9, 7)
		if !slices.Equal(s, numbers(7, 9)) || !slices.Equal(o, order(9, 7)) {
			t.Error("a later call answers", s, o)
		}
		for i := range s {
			s[i], o[i] = 0, 0
		}
		_ = append(s, 1)
		_ = append(o, 1)
	}
}
