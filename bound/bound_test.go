package bound_test

import (
	"math"
	"testing"

	"gavelhouse/bound"
)

func TestWithin(t *testing.T) {
	for _, c := range []struct {
		x, low, high int
		want         bool
	}{
		{2, 1, 3, true}, {1, 1, 3, true}, {3, 1, 3, true}, {5, 5, 5, true},
		{0, 1, 3, false}, {4, 1, 3, false}, {2, 3, 1, false},
		{math.MinInt, 0, 1, false}, {math.MaxInt, 0, 1, false},
		{math.MinInt, math.MinInt, math.MaxInt, true}, {math.MaxInt, math.MinInt, math.MaxInt, true},
	} {
		if got := bound.Within(c.x, c.low, c.high); got != c.want {
			t.Errorf("Within(%d, %d, %d) = %v", c.x, c.low, c.high, got)
		}
	}
}

func TestApart(t *testing.T) {
	for _, c := range []struct{ a, b, want int }{
		{0, 0, 0}, {7, 7, 0}, {-7, -7, 0}, {7, 8, 1}, {1, 1000, 999}, {-3, 4, 7}, {-9, -2, 7},
		{0, math.MaxInt, math.MaxInt}, {-1, math.MaxInt - 1, math.MaxInt}, {math.MinInt, -1, math.MaxInt}, {math.MinInt, math.MinInt, 0},
	} {
		if got, back := bound.Apart(c.a, c.b), bound.Apart(c.b, c.a); got != c.want || back != c.want {
			t.Errorf("Apart(%d, %d) = %d, the other way %d, want %d", c.a, c.b, got, back, c.want)
		}
	}
}

func TestIsClient(t *testing.T) {
	for _, n := range []int{0, 1, 2, 3, 4, 5} {
		if !bound.IsClient(n) {
			t.Errorf("%d is no client", n)
		}
	}
	for _, n := range []int{math.MinInt, -6, -1, 6, 7, 256, 1 << 32, math.MaxInt} {
		if bound.IsClient(n) {
			t.Errorf("%d is a client", n)
		}
	}
}
