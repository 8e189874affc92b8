package band_test

import (
	"math"
	"math/big"
	"testing"

	"gavelhouse/band"
)

func wantWithin(t *testing.T, width, ref, price int, want bool) {
	t.Helper()
	if got := (band.Rule{Width: width, Halt: 1}).Within(ref, price); got != want {
		t.Errorf("with %d: Within(%d, %d) = %v", width, ref, price, got)
	}
}

func TestWithin(t *testing.T) {
	for _, c := range []struct {
		width, ref, price int
		want              bool
	}{
		{10, 100, 100, true}, {10, 100, 110, true}, {10, 100, 111, false}, {10, 100, 90, true}, {10, 100, 89, false},
		{10, 9, 9, true}, {10, 9, 10, false}, {10, 9, 8, false}, {10, 10, 11, true}, {10, 10, 9, true}, // a tenth of 9 is less than 1
		{10, 19, 20, true}, {10, 19, 21, false}, {10, 19, 18, true}, {10, 19, 17, false},
		{33, 100, 133, true}, {33, 100, 134, false}, {33, 3, 4, false}, {34, 3, 4, true}, {34, 3, 2, true},
		{0, 1, 1, true}, {0, 1, 2, false}, {0, 1000, 1000, true}, {0, 1000, 999, false},
		{99, 1, 2, false}, {100, 1, 2, true}, {100, 1, 3, false}, {100, 500, 1000, true}, {100, 499, 999, false},
		{99, 1000, 10, true}, {99, 1000, 9, false}, {100, 1000, 1, true}, {1, 1000, 990, true}, {1, 1000, 989, false},
	} {
		wantWithin(t, c.width, c.ref, c.price, c.want)
	}
}

// near: a hundredth's parts of ref, less what is no whole number, are as far as a price may be.
func near(width, ref, price int) bool {
	far := ref * width / 100
	return ref-far <= price && price <= ref+far
}

func TestWithinAtEachEdge(t *testing.T) {
	for width := 0; width <= 100; width++ {
		for ref := 1; ref <= 1000; ref++ {
			far := ref * width / 100
			for _, price := range []int{1, ref - far - 1, ref - far, ref, ref + far, ref + far + 1, 1000} {
				if 1 <= price && price <= 1000 {
					wantWithin(t, width, ref, price, near(width, ref, price))
				}
			}
		}
	}
}

func TestWithinOfAllPrices(t *testing.T) {
	for _, width := range []int{0, 1, 7, 50, 100} {
		for ref := 1; ref <= 1000; ref += 27 {
			for price := 1; price <= 1000; price++ {
				wantWithin(t, width, ref, price, near(width, ref, price))
			}
		}
	}
}

// A rule that is not well answers by the same words, however great its numbers are.
func TestWithinOfStrangeRules(t *testing.T) {
	widths := []int{
		-1, -100, -1 << 32, math.MinInt, math.MinInt + 1, math.MinInt / 2, math.MinInt / 1000,
		101, 102, 998, 999, 1000, 9989, 9990, 99800, 99899, 99900, 99901, 100000, 100001,
		1 << 32, 1 << 61, 1 << 62, math.MaxInt/1000 + 1, math.MaxInt / 3, math.MaxInt/2 + 1, math.MaxInt - 1, math.MaxInt,
	}
	for _, width := range widths {
		for _, ref := range []int{1, 2, 3, 10, 499, 500, 999, 1000} {
			for _, price := range []int{1, 2, 3, 4, 11, 20, 21, 500, 998, 999, 1000} {
				away := big.NewInt(int64(max(price-ref, ref-price)) * 100)
				most := new(big.Int).Mul(big.NewInt(int64(ref)), big.NewInt(int64(width)))
				wantWithin(t, width, ref, price, away.Cmp(most) <= 0)
			}
		}
	}
}

// How long it halts is nothing to how wide a rule is.
func TestWithinWhateverHalt(t *testing.T) {
	for _, halt := range []int{0, -1, 1, 1000, 1001, math.MinInt, math.MaxInt} {
		r := band.Rule{Width: 10, Halt: halt}
		if !r.Within(100, 110) || !r.Within(100, 90) || r.Within(100, 111) || r.Within(100, 89) {
			t.Errorf("%v is another one", r)
		}
	}
}

func TestWithinDoesNotPanic(t *testing.T) {
	all := []int{math.MinInt, -1, 0, 1, 1000, 1001, math.MaxInt}
	for _, width := range all {
		for _, ref := range all {
			for _, price := range all {
				(band.Rule{Width: width}).Within(ref, price)
			}
		}
	}
}
