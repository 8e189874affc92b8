package curve_test

import (
	"math"
	"slices"
	"testing"

	"gavelhouse/api"
	"gavelhouse/curve"
)

func buy(id, price int) api.Lot {
	return api.Lot{ID: id, Side: api.Buy, Price: price, Qty: 1}
}

func sell(id, price int) api.Lot {
	return api.Lot{ID: id, Side: api.Sell, Price: price, Qty: 1}
}

func TestPricesBestAndCross(t *testing.T) {
	for _, c := range []struct {
		l               []api.Lot
		prices          []int
		greatest, least int // of buys, of sells
		cross           bool
	}{
		{nil, nil, 0, 0, false},
		{[]api.Lot{}, nil, 0, 0, false},
		{[]api.Lot{buy(1, 1)}, []int{1}, 1, 0, false},
		{[]api.Lot{buy(1, 1000), buy(2, 1)}, []int{1, 1000}, 1000, 0, false},
		{[]api.Lot{sell(1, 1)}, []int{1}, 0, 1, false},
		{[]api.Lot{sell(1, 1000), sell(2, 1)}, []int{1, 1000}, 0, 1, false},
		{[]api.Lot{sell(1, 9), buy(2, 9)}, []int{9}, 9, 9, true},
		{[]api.Lot{buy(1, 9), sell(2, 9)}, []int{9}, 9, 9, true},
		{[]api.Lot{buy(1, 8), sell(2, 9)}, []int{8, 9}, 8, 9, false},
		{[]api.Lot{buy(1, 10), sell(2, 9)}, []int{9, 10}, 10, 9, true},
		{[]api.Lot{buy(1, 1), sell(2, 1)}, []int{1}, 1, 1, true},
		{[]api.Lot{buy(1, 1000), sell(2, 1000)}, []int{1000}, 1000, 1000, true},
		{[]api.Lot{buy(1, 1), sell(2, 1000)}, []int{1, 1000}, 1, 1000, false},
		{[]api.Lot{buy(1, 5), buy(2, 7), buy(3, 5), sell(4, 9), sell(5, 8), sell(6, 9)}, []int{5, 7, 8, 9}, 7, 8, false},
		{[]api.Lot{sell(6, 9), buy(1, 7), sell(4, 7), buy(3, 5), buy(2, 7)}, []int{5, 7, 9}, 7, 7, true},
	} {
		wantPrices(t, c.l, c.prices)
		wantBest(t, c.l, c.greatest, c.least)
		if got := curve.Cross(c.l); got != c.cross {
			t.Errorf("Cross(%v) = %v", c.l, got)
		}
	}
}

func wantPrices(t *testing.T, l []api.Lot, want []int) {
	t.Helper()
	if got := curve.Prices(l); !slices.Equal(got, want) {
		t.Errorf("Prices(%v) = %v, want %v", l, got, want)
	}
}

func wantBest(t *testing.T, l []api.Lot, greatest, least int) {
	t.Helper()
	if got := curve.Best(l, api.Buy); got != greatest {
		t.Errorf("best buy of %v: %d, want %d", l, got, greatest)
	}
	if got := curve.Best(l, api.Sell); got != least {
		t.Errorf("best sell of %v: %d, want %d", l, got, least)
	}
	for _, side := range []int{math.MinInt, -1, 2, 3, 1 << 32, math.MaxInt} {
		if got := curve.Best(l, side); got != 0 {
			t.Errorf("best of side %d of %v: %d", side, l, got)
		}
	}
}

// asked: is there, at each price in turn, a lot that is so?
func asked(l []api.Lot, isSo func(x api.Lot, p int) bool) []int {
	var prices []int
	for p := 1; p <= 1000; p++ {
		for _, x := range l {
			if isSo(x, p) {
				prices = append(prices, p)
				break
			}
		}
	}
	return prices
}

func crosses(l []api.Lot) bool {
	for _, b := range l {
		for _, s := range l {
			if b.Side == 0 && s.Side == 1 && b.Price >= s.Price {
				return true
			}
		}
	}
	return false
}

func TestPricesBestAndCrossOfDraws(t *testing.T) {
	crossed := 0
	for _, l := range draws() {
		wantPrices(t, l, asked(l, func(x api.Lot, p int) bool { return x.Price == p }))
		buys := asked(l, func(x api.Lot, p int) bool { return x.Side == 0 && x.Price == p })
		sells := asked(l, func(x api.Lot, p int) bool { return x.Side == 1 && x.Price == p })
		greatest, least := 0, 0
		if len(buys) > 0 {
			greatest = buys[len(buys)-1]
		}
		if len(sells) > 0 {
			least = sells[0]
		}
		wantBest(t, l, greatest, least)
		if got := curve.Cross(l); got != crosses(l) {
			t.Errorf("Cross(%v) = %v", l, got)
		} else if got {
			crossed++
		}
	}
	if crossed == 0 || crossed == len(draws()) {
		t.Error("no lists of both sorts:", crossed)
	}
}

// Lots are only read, within their length alone, and prices are new memory.
func TestLotsAreOnlyRead(t *testing.T) {
	all := []api.Lot{sell(1, 9), buy(2, 5), buy(3, 12), sell(4, 9), {ID: 1, Price: -1}, buy(2, 1000)}
	l, was := all[:4], slices.Clone(all)
	for range 2 {
		wantWell(t, l)
		wantTotals(t, l, 9, totals{1, 2, 1, -1})
		wantBest(t, l, 12, 9)
		if !curve.Cross(l) {
			t.Error("no cross")
		}
		wantPrices(t, l, []int{5, 9, 12})
		curve.Prices(l)[0] = 77
	}
	if !slices.Equal(all, was) {
		t.Errorf("lots are now %v, were %v", all, was)
	}
}

func TestBestFirst(t *testing.T) {
	levels := map[int]string{}
	for _, side := range []int{api.Buy, api.Sell} {
		if got := curve.BestFirst(levels, side); len(got) != 0 {
			t.Errorf("prices of no levels: %v", got)
		}
	}
	for _, p := range []int{7, 1000, 1, 30, 8} {
		levels[p] = "a level"
	}
	if got := curve.BestFirst(levels, api.Buy); !slices.Equal(got, []int{1000, 30, 8, 7, 1}) {
		t.Errorf("prices of buys: %v", got)
	}
	if got := curve.BestFirst(levels, api.Sell); !slices.Equal(got, []int{1, 7, 8, 30, 1000}) {
		t.Errorf("prices of sells: %v", got)
	}
}
