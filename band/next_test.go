package band_test

import (
	"math"
	"testing"

	"gavelhouse/api"
	"gavelhouse/band"
)

// next of a band, which must be well.
func next(t *testing.T, b band.Band, r band.Rule, price, volume int) (band.Band, bool) {
	t.Helper()
	n, open, err := band.Next(b, r, price, volume)
	if err != nil {
		t.Fatalf("Next(%v, %v, %d, %d) = %v", b, r, price, volume, err)
	}
	return n, open
}

func wantNext(t *testing.T, b band.Band, r band.Rule, price, volume int, want band.Band, open bool) {
	t.Helper()
	if n, is := next(t, b, r, price, volume); n != want || is != open {
		t.Errorf("Next(%v, %v, %d, %d) = %v, %v, want %v, %v", b, r, price, volume, n, is, want, open)
	}
}

func wantNoNext(t *testing.T, b band.Band, r band.Rule, price, volume int) {
	t.Helper()
	if n, open, err := band.Next(b, r, price, volume); n != (band.Band{}) || open || err != api.ErrBound {
		t.Errorf("Next(%v, %v, %d, %d) = %v, %v, %v", b, r, price, volume, n, open, err)
	}
}

// of a reference, and of batches that a halt goes on.
func of(ref, left int) band.Band { return band.Band{Ref: ref, Left: left} }

func TestNextIsOpen(t *testing.T) {
	r := band.Rule{Width: 10, Halt: 3}
	for _, price := range []int{90, 91, 99, 100, 101, 109, 110} {
		wantNext(t, of(100, 0), r, price, 1, of(price, 0), true)
		wantNext(t, of(100, 0), r, price, math.MaxInt, of(price, 0), true)
		wantNext(t, of(100, 0), r, price, 0, of(100, 0), true)
	}
	wantNext(t, of(1, 0), band.Rule{Halt: 1}, 1, 1, of(1, 0), true)
	wantNext(t, of(1000, 0), band.Rule{Halt: 1}, 1000, 1, of(1000, 0), true)
	wantNext(t, of(1000, 0), band.Rule{Width: 100, Halt: 1}, 1, 1, of(1, 0), true)
	wantNext(t, of(500, 0), band.Rule{Width: 100, Halt: 1}, 1000, 1, of(1000, 0), true)
}

func TestNextBeginsAHalt(t *testing.T) {
	for _, halt := range []int{1, 2, 3, 999, 1000} {
		r := band.Rule{Width: 10, Halt: halt}
		for _, price := range []int{1, 50, 89, 111, 200, 1000} {
			wantNext(t, of(100, 0), r, price, 1, of(100, halt), false)
			wantNext(t, of(100, 0), r, price, math.MaxInt, of(100, halt), false)
		}
	}
	wantNext(t, of(1, 0), band.Rule{Halt: 1}, 2, 1, of(1, 1), false)
	wantNext(t, of(499, 0), band.Rule{Width: 100, Halt: 1}, 999, 1, of(499, 1), false)
}

// In a halt no price counts, near or far, but the last one.
func TestNextGoesOnWithAHalt(t *testing.T) {
	r := band.Rule{Width: 10, Halt: 2}
	for _, left := range []int{2, 3, 4, 999, 1000} { // also of more batches than the rule has
		for _, price := range []int{1, 89, 90, 100, 110, 111, 1000} {
			wantNext(t, of(100, left), r, price, 1, of(100, left-1), false)
			wantNext(t, of(100, left), r, price, 0, of(100, left-1), false)
		}
	}
	for _, price := range []int{1, 89, 90, 100, 110, 111, 1000} {
		wantNext(t, of(100, 1), r, price, 1, of(price, 0), false)
		wantNext(t, of(100, 1), r, price, math.MaxInt, of(price, 0), false)
		wantNext(t, of(100, 1), r, price, 0, of(100, 0), false)
	}
}

// Where there is no volume, there is no price either: any number may stand there, and is not taken.
func TestNextOfNoVolume(t *testing.T) {
	r := band.Rule{Width: 10, Halt: 2}
	for _, price := range []int{math.MinInt, -1, 0, 1, 100, 1000, 1001, 1 << 32, math.MaxInt} {
		wantNext(t, of(100, 0), r, price, 0, of(100, 0), true)
		wantNext(t, of(100, 1), r, price, 0, of(100, 0), false)
		wantNext(t, of(100, 2), r, price, 0, of(100, 1), false)
	}
}

func TestNextBounds(t *testing.T) {
	r := band.Rule{Width: 10, Halt: 2}
	for _, volume := range []int{0, 1} {
		for _, b := range badBands() {
			wantNoNext(t, b, r, 5, volume)
			wantNoNext(t, b, band.Rule{}, 5, volume)
		}
		for _, left := range []int{0, 1, 2} { // a halt that goes on asks as much of its rule
			for _, bad := range badRules() {
				wantNoNext(t, of(5, left), bad, 5, volume)
			}
		}
	}
	for _, left := range []int{0, 1, 2} {
		for _, volume := range []int{-1, -5, -1 << 32, math.MinInt} {
			for _, price := range []int{0, 5, 1001} {
				wantNoNext(t, of(5, left), r, price, volume)
			}
		}
		for _, price := range []int{0, -1, 1001, -5, 5 + 1<<32, math.MinInt, math.MaxInt} {
			wantNoNext(t, of(5, left), r, price, 1)
			wantNoNext(t, of(5, left), r, price, math.MaxInt)
		}
	}
}
