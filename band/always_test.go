package band_test

import (
	"math/rand"
	"testing"

	"gavelhouse/band"
)

// candidate of a batch.
type candidate struct{ price, volume int }

// state behind a batch.
type state struct {
	band band.Band
	open bool
}

// told: what a row of batches comes to, a halt at a time, made without the program.
func told(ref int, r band.Rule, row []candidate) []state {
	var all []state
	for len(all) < len(row) {
		c := row[len(all)]
		if c.volume == 0 || near(r.Width, ref, c.price) {
			if c.volume > 0 {
				ref = c.price
			}
			all = append(all, state{of(ref, 0), true})
			continue
		}
		// the batch that leaps is closed, and so many more
		for left := r.Halt; left >= 0 && len(all) < len(row); left-- {
			if c := row[len(all)]; left == 0 && c.volume > 0 {
				ref = c.price
			}
			all = append(all, state{of(ref, left), false})
		}
	}
	return all
}

// drawRow of candidates: most of them come back to a few prices, so that some are within, and some are not.
func drawRow(r *rand.Rand, n int) []candidate {
	var row []candidate
	prices := []int{r.Intn(1000) + 1, r.Intn(1000) + 1, r.Intn(30) + 1, r.Intn(1000) + 1}
	for range n {
		price := min(1000, prices[r.Intn(4)]+r.Intn(3))
		row = append(row, candidate{price, r.Intn(4) * r.Intn(1000)})
	}
	return row
}

func TestRowsOfDraws(t *testing.T) {
	begun, open := 0, 0
	for seed := range 400 {
		draw := rand.New(rand.NewSource(int64(seed)))
		r := band.Rule{Width: draw.Intn(101), Halt: draw.Intn(5) + 1}
		b := of(draw.Intn(1000)+1, 0)
		row := drawRow(draw, 100)
		want := told(b.Ref, r, row)
		for i, c := range row {
			wantNext(t, b, r, c.price, c.volume, want[i].band, want[i].open)
			if b = want[i].band; b.Check() != nil {
				t.Fatalf("seed %d: %v is not well", seed, b)
			}
			if want[i].open {
				open++
			} else if b.Left == r.Halt {
				begun++
			}
		}
		if t.Failed() {
			t.Fatalf("seed %d, %v", seed, r)
		}
	}
	if begun < 1000 || open < 1000 {
		t.Errorf("%d halts and %d open ones were drawn alone", begun, open)
	}
}

// P82: behind the batch that leaps just Halt batches are closed, whatever is offered meanwhile.
func TestHaltGoesOnForHaltBatches(t *testing.T) {
	offers := []func(i int) candidate{
		func(int) candidate { return candidate{} },
		func(int) candidate { return candidate{100, 1} },
		func(int) candidate { return candidate{500, 1} },
		func(i int) candidate { return candidate{i*37%1000 + 1, i % 3} },
	}
	for halt := 1; halt <= 1000; halt++ {
		r := band.Rule{Width: 10, Halt: halt}
		for kind, offer := range offers {
			b, open := next(t, of(100, 0), r, 500, 1)
			closed := 0
			for ; b.Left > 0 && !open && closed < 2000; closed++ {
				c := offer(closed)
				b, open = next(t, b, r, c.price, c.volume)
			}
			if open || closed != halt {
				t.Errorf("halt of %d, offers %d: %d are closed, open: %v", halt, kind, closed, open)
			}
			if _, open = next(t, b, r, b.Ref, 1); !open {
				t.Errorf("halt of %d, offers %d: is not open behind it", halt, kind)
			}
		}
	}
}

// P82: the price at which a halt ends does not begin the next one, not even where the width is none, and not behind batches without a volume.
func TestHaltsDoNotAbutAtOnePrice(t *testing.T) {
	for _, r := range []band.Rule{{Width: 0, Halt: 1}, {Width: 0, Halt: 1000}, {Width: 10, Halt: 2}, {Width: 100, Halt: 1}} {
		for price := 1; price <= 1000; price++ {
			for _, ref := range []int{1, price, 1000} {
				b, open := next(t, of(ref, 1), r, price, 1)
				if open {
					t.Fatalf("a halt at %d is open", price)
				}
				wantNext(t, b, r, price, 1, of(price, 0), true)
				b, _ = next(t, b, r, 0, 0)
				wantNext(t, b, r, price, 1, of(price, 0), true)
			}
		}
	}
}

// A halt that ends without a volume has no price: the reference stays as it was, and what leaps from it begins another one.
func TestHaltThatEndsWithoutAPrice(t *testing.T) {
	r := band.Rule{Width: 10, Halt: 1}
	b, _ := next(t, of(100, 0), r, 122, 1)
	b, _ = next(t, b, r, 0, 0)
	wantNext(t, b, r, 122, 1, of(100, 1), false)
	wantNext(t, b, r, 110, 1, of(110, 0), true)
}
