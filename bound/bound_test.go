package bound_test

import (
	"math"
	"testing"

	"gavelhouse/bound"
)

func TestWithin(t *testing.T) {
	for _, c := range []struct {
		x, low, high int
		want         bool
	}{
		{2, 1, 3, true}, {1, 1, 3, true}, {3, 1, 3, true}, {5, 5, 5, true},
		{0, 1, 3, false}, {4, 1, 3, false}, {2, 3, 1, false},
		{math.MinInt, 0, 1, false}, {math.MaxInt, 0, 1, false},
		{math.MinInt, math.MinInt, math.MaxInt, true}, {math.MaxInt, math.MinInt, math.MaxInt, true},
	} {
		if got := bound.Within(c.x, c.low, c.high); got != c.want {
			t.Errorf("Within(%d, %d, %d) = %v", c.x, c.low, c.high, got)
		}
	}
}
