package curve_test

import (
	"math"
	"math/rand"
	"testing"

	"gavelhouse/api"
	"gavelhouse/curve"
)

// totals of lots at one price.
type totals struct{ demand, supply, volume, surplus int }

func wantTotals(t *testing.T, l []api.Lot, p int, want totals) {
	t.Helper()
	got := totals{curve.Demand(l, p), curve.Supply(l, p), curve.Volume(l, p), curve.Surplus(l, p)}
	if got != want {
		t.Errorf("at %d of %v: %+v, want %+v", p, l, got, want)
	}
}

// counted: totals of lots that are well, item by item, made without the program.
func counted(l []api.Lot, p int) totals {
	var c totals
	for _, x := range l {
		for range x.Qty {
			if x.Side == 0 && x.Price >= p {
				c.demand++
			}
			if x.Side == 1 && x.Price <= p {
				c.supply++
			}
		}
	}
	c.volume, c.surplus = c.demand, c.demand-c.supply
	if c.supply < c.demand {
		c.volume = c.supply
	}
	return c
}

// drawn: lots that are well, with prices from so many, so that some are the same.
func drawn(r *rand.Rand, n, prices int) []api.Lot {
	var l []api.Lot
	first := r.Intn(1000-prices+1) + 1
	for _, id := range r.Perm(n) {
		l = append(l, api.Lot{ID: id*9 + 1, Owner: r.Intn(6), Side: r.Intn(2), Price: first + r.Intn(prices), Qty: r.Intn(50) + 1})
	}
	return l
}

// draws of lots: few and many, of near and of far prices.
func draws() [][]api.Lot {
	r := rand.New(rand.NewSource(5))
	var all [][]api.Lot
	for range 15 {
		for _, prices := range []int{1, 2, 12, 1000} {
			all = append(all, drawn(r, r.Intn(most+1), prices))
		}
		all = append(all, drawn(r, r.Intn(6), 4))
	}
	return all
}

func TestDocumentExample(t *testing.T) {
	l := []api.Lot{{ID: 1, Side: api.Buy, Price: 10, Qty: 5}, {ID: 2, Side: api.Buy, Price: 8, Qty: 3}, {ID: 3, Side: api.Sell, Price: 9, Qty: 4}}
	wantTotals(t, l, 9, totals{5, 4, 4, 1})
	wantTotals(t, l, 8, totals{8, 0, 0, 8})
	wantTotals(t, l, 10, totals{5, 4, 4, 1})
	wantTotals(t, l, 11, totals{0, 4, 0, -4})
}

func TestTotalsAtAPrice(t *testing.T) {
	b := api.Lot{ID: 1, Side: api.Buy, Price: 500, Qty: 7}
	s := api.Lot{ID: 2, Side: api.Sell, Price: 500, Qty: 9}
	for _, c := range []struct {
		p           int
		alone, both totals
	}{
		{math.MinInt, totals{7, 0, 0, 7}, totals{7, 0, 0, 7}},
		{0, totals{7, 0, 0, 7}, totals{7, 0, 0, 7}},
		{499, totals{7, 0, 0, 7}, totals{7, 0, 0, 7}},
		{500, totals{7, 0, 0, 7}, totals{7, 9, 7, -2}},
		{501, totals{}, totals{0, 9, 0, -9}},
		{5000, totals{}, totals{0, 9, 0, -9}},
		{math.MaxInt, totals{}, totals{0, 9, 0, -9}},
	} {
		wantTotals(t, nil, c.p, totals{})
		wantTotals(t, []api.Lot{}, c.p, totals{})
		wantTotals(t, []api.Lot{b}, c.p, c.alone)
		wantTotals(t, []api.Lot{b, s}, c.p, c.both)
		wantTotals(t, []api.Lot{s, b}, c.p, c.both)
	}
}

func TestGreatestTotals(t *testing.T) {
	var l []api.Lot
	for i := range most {
		l = append(l, api.Lot{ID: 1<<30 - i, Side: i / 60, Price: 1000, Qty: 1000})
	}
	wantTotals(t, l, 1000, totals{60000, 60000, 60000, 0})
	for i := range l {
		l[i].Side = api.Buy
	}
	wantTotals(t, l, 1000, totals{120000, 0, 0, 120000})
	for i := range l {
		l[i].Side = api.Sell
	}
	wantTotals(t, l, 1000, totals{0, 120000, 0, -120000})
}

func TestTotalsOfDraws(t *testing.T) {
	for _, l := range draws() {
		for _, x := range l {
			for p := x.Price - 1; p <= x.Price+1; p++ {
				wantTotals(t, l, p, counted(l, p))
			}
		}
		for _, p := range []int{-5, 0, 1, 500, 1000, 1001} {
			wantTotals(t, l, p, counted(l, p))
		}
	}
}

func TestDemandFallsAndSupplyRises(t *testing.T) {
	for _, l := range draws() {
		demand, supply := curve.Demand(l, math.MinInt), curve.Supply(l, math.MinInt)
		for p := -1; p <= 1002; p++ {
			d, s := curve.Demand(l, p), curve.Supply(l, p)
			if d > demand || s < supply {
				t.Fatalf("from %d to %d: demand %d to %d, supply %d to %d, of %v", p-1, p, demand, d, supply, s, l)
			}
			demand, supply = d, s
		}
		if d, s := curve.Demand(l, math.MaxInt), curve.Supply(l, math.MaxInt); d > demand || s < supply {
			t.Fatalf("at the greatest price: demand %d to %d, supply %d to %d", demand, d, supply, s)
		}
	}
}
