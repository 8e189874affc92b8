package band_test

import (
	"math"
	"testing"

	"gavelhouse/api"
	"gavelhouse/band"
)

// badBands: each has one field beside its bounds, or both.
func badBands() []band.Band {
	var all []band.Band
	for _, n := range []int{0, -1, 1001, -5, 5 + 1<<32, math.MinInt, math.MaxInt} {
		all = append(all, band.Band{Ref: n}, band.Band{Ref: n, Left: 1})
	}
	for _, n := range []int{-1, 1001, 1 << 32, 1<<32 + 1, math.MinInt, math.MaxInt} {
		all = append(all, band.Band{Ref: 5, Left: n}, band.Band{Ref: 0, Left: n})
	}
	return all
}

// badRules: each has one field beside its bounds, or both.
func badRules() []band.Rule {
	var all []band.Rule
	for _, n := range []int{-1, 101, 1 << 32, 1<<32 + 10, math.MinInt, math.MaxInt} {
		all = append(all, band.Rule{Width: n, Halt: 1}, band.Rule{Width: n})
	}
	for _, n := range []int{0, -1, 1001, 1<<32 + 1, math.MinInt, math.MaxInt} {
		all = append(all, band.Rule{Width: 10, Halt: n})
	}
	return all
}

func TestCheckBand(t *testing.T) {
	for _, ref := range []int{1, 2, 500, 999, 1000} {
		for _, left := range []int{0, 1, 2, 999, 1000} {
			if err := (band.Band{Ref: ref, Left: left}).Check(); err != nil {
				t.Errorf("Check of {%d %d} = %v", ref, left, err)
			}
		}
	}
	for _, b := range badBands() {
		if err := b.Check(); err != api.ErrBound {
			t.Errorf("Check of %v = %v", b, err)
		}
	}
}

func TestCheckRule(t *testing.T) {
	for _, width := range []int{0, 1, 50, 99, 100} {
		for _, halt := range []int{1, 2, 999, 1000} {
			if err := (band.Rule{Width: width, Halt: halt}).Check(); err != nil {
				t.Errorf("Check of {%d %d} = %v", width, halt, err)
			}
		}
	}
	for _, r := range badRules() {
		if err := r.Check(); err != api.ErrBound {
			t.Errorf("Check of %v = %v", r, err)
		}
	}
}
