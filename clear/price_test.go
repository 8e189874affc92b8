package clear_test

import (
	"math"
	"slices"
	"testing"

	"gavelhouse/api"
	"gavelhouse/clear"
	"gavelhouse/curve"
)

func wantPrice(t *testing.T, l []api.Lot, ref, price, volume int) {
	t.Helper()
	p, v, err := clear.Price(l, ref)
	if p != price || v != volume || err != nil {
		t.Errorf("Price(%v, %d) = %d, %d, %v, want %d, %d", l, ref, p, v, err, price, volume)
	}
}

func TestNothingTrades(t *testing.T) {
	for _, l := range [][]api.Lot{
		nil,
		{},
		{buy(1, 10, 5)},
		{sell(1, 10, 5)},
		{buy(1, 1000, 1000), buy(2, 1, 1)},
		{sell(1, 1, 1000), sell(2, 1000, 1)},
		{buy(1, 10, 5), sell(2, 11, 5)},
		{sell(2, 1000, 5), buy(1, 999, 5)},
		{buy(1, 1, 1), buy(3, 2, 1), sell(2, 3, 1), sell(4, 4, 1)},
	} {
		for _, ref := range []int{1, 10, 11, 999, 1000} {
			wantPrice(t, l, ref, 0, 0)
		}
	}
}

// The greatest volume is ahead of all else: of what is left over, and of the reference.
func TestMostIsTraded(t *testing.T) {
	for _, ref := range []int{1, 499, 500, 501, 1000} {
		wantPrice(t, []api.Lot{buy(1, 500, 1), sell(2, 500, 1)}, ref, 500, 1)
		wantPrice(t, []api.Lot{buy(1, 500, 3), buy(2, 499, 3), sell(3, 400, 4), sell(4, 499, 1)}, ref, 499, 5)
		// above 500 less is left over, but less is traded too
		wantPrice(t, []api.Lot{buy(1, 700, 5), buy(2, 500, 9), sell(3, 300, 5), sell(4, 500, 1)}, ref, 500, 6)
		wantPrice(t, []api.Lot{buy(1, 1000, 1000), sell(2, 1000, 1000)}, ref, 1000, 1000)
		wantPrice(t, []api.Lot{buy(1, 1, 1000), sell(2, 1, 1)}, ref, 1, 1)
	}
}

// The least left over, of either side, is ahead of the reference.
func TestLeastIsLeft(t *testing.T) {
	buyers := []api.Lot{buy(1, 20, 5), buy(2, 14, 2), buy(3, 11, 1), sell(4, 10, 5)}
	sellers := []api.Lot{sell(1, 10, 5), sell(2, 16, 2), sell(3, 19, 1), buy(4, 20, 5)}
	for _, c := range []struct{ ref, above, below int }{
		{1, 15, 10}, {10, 15, 10}, {14, 15, 14}, {15, 15, 15}, {16, 16, 15}, {20, 20, 15}, {1000, 20, 15},
	} {
		wantPrice(t, buyers, c.ref, c.above, 5)
		wantPrice(t, sellers, c.ref, c.below, 5)
	}
	// 3 buys are left over up to 12, 2 sells from 13 on
	both := []api.Lot{buy(1, 20, 5), buy(2, 12, 3), sell(3, 10, 5), sell(4, 13, 2)}
	wantPrice(t, both, 1, 13, 5)
	wantPrice(t, both, 12, 13, 5)
	wantPrice(t, both, 17, 17, 5)
	// 2 buys are left over up to 12, 3 sells from 13 on
	both = []api.Lot{buy(1, 20, 5), buy(2, 12, 2), sell(3, 10, 5), sell(4, 13, 3)}
	wantPrice(t, both, 1000, 12, 5)
	wantPrice(t, both, 13, 12, 5)
	wantPrice(t, both, 11, 11, 5)
}

// As much left over of buys as of sells is as good: of these prices the nearest to the reference is taken.
func TestNearest(t *testing.T) {
	one := []api.Lot{buy(1, 1000, 1), sell(2, 1, 1)}
	for _, ref := range []int{1, 2, 500, 999, 1000} {
		wantPrice(t, one, ref, ref, 1)
	}
	// 8 leaves 1 buy, 9 leaves 1 sell
	pair := []api.Lot{buy(1, 9, 5), buy(2, 8, 1), sell(3, 8, 5), sell(4, 9, 1)}
	for _, c := range []struct{ ref, price int }{{1, 8}, {7, 8}, {8, 8}, {9, 9}, {10, 9}, {1000, 9}} {
		wantPrice(t, pair, c.ref, c.price, 5)
	}
	// from 5 to 8 leaves 2 buys, from 9 to 14 leaves 2 sells
	wide := []api.Lot{buy(1, 14, 5), buy(2, 8, 2), sell(3, 5, 5), sell(4, 9, 2)}
	for _, c := range []struct{ ref, price int }{{1, 5}, {5, 5}, {8, 8}, {9, 9}, {11, 11}, {14, 14}, {15, 14}, {1000, 14}} {
		wantPrice(t, wide, c.ref, c.price, 5)
	}
}

func TestWrongLots(t *testing.T) {
	well := []api.Lot{buy(1, 10, 5), sell(2, 9, 5)}
	for _, c := range []struct {
		x    api.Lot
		want error
	}{
		{buy(0, 10, 5), api.ErrBound}, {buy(1<<30+1, 10, 5), api.ErrBound},
		{buy(3, 0, 5), api.ErrBound}, {buy(3, 1001, 5), api.ErrBound}, {buy(3, -1, 5), api.ErrBound}, {sell(3, math.MaxInt, 5), api.ErrBound}, {sell(3, math.MinInt, 5), api.ErrBound},
		{sell(3, 10, 0), api.ErrBound}, {sell(3, 10, 1001), api.ErrBound}, {sell(3, 10, math.MinInt), api.ErrBound},
		{api.Lot{ID: 3, Side: 2, Price: 10, Qty: 5}, api.ErrBound}, {api.Lot{ID: 3, Side: -1, Price: 10, Qty: 5}, api.ErrBound},
		{api.Lot{ID: 3, Owner: 6, Price: 10, Qty: 5}, api.ErrBound}, {api.Lot{ID: 3, Owner: -1, Price: 10, Qty: 5}, api.ErrBound},
		{sell(1, 10, 5), api.ErrExist}, {buy(2, 9, 5), api.ErrExist},
	} {
		l := append(slices.Clone(well), c.x)
		// the lots are told ahead of the reference
		for _, ref := range []int{10, 0, 1001, math.MinInt} {
			p, v, err := clear.Price(l, ref)
			f, ok := err.(*api.Fault)
			if p != 0 || v != 0 || !ok || f.At != 2 || f.Err != c.want {
				t.Errorf("Price(%v, %d) = %d, %d, %v, want %v at 2", l, ref, p, v, err, c.want)
			}
		}
		wantNothing(t, l)
	}
}

func TestTooManyLots(t *testing.T) {
	wantPrice(t, alternate(120), 500, 500, 60)
	for _, n := range []int{121, 1000} {
		for _, ref := range []int{500, 0, 1001} {
			if p, v, err := clear.Price(alternate(n), ref); p != 0 || v != 0 || err != api.ErrFull {
				t.Errorf("Price of %d lots at %d = %d, %d, %v", n, ref, p, v, err)
			}
		}
		wantNothing(t, alternate(n))
	}
}

func TestWrongReference(t *testing.T) {
	for _, l := range [][]api.Lot{nil, {buy(1, 10, 5)}, {buy(1, 10, 5), sell(2, 9, 5)}} {
		for _, ref := range []int{0, -1, 1001, 1 << 32, math.MinInt, math.MaxInt} {
			if p, v, err := clear.Price(l, ref); p != 0 || v != 0 || err != api.ErrBound {
				t.Errorf("Price(%v, %d) = %d, %d, %v", l, ref, p, v, err)
			}
		}
	}
}

// chosen: the price by the document's words, one after the other, made without the program.
func chosen(l []api.Lot, ref int) (price, volume int) {
	var all []int
	most := 0
	for p := 1; p <= 1000; p++ {
		all = append(all, p)
		most = max(most, traded(l, p))
	}
	if most == 0 {
		return 0, 0
	}
	all = keepLeast(all, func(p int) int { return -traded(l, p) })
	all = keepLeast(all, func(p int) int { return distance(total(l, 0, p), total(l, 1, p)) })
	all = keepLeast(all, func(p int) int { return distance(p, ref) })
	return all[0], most
}

// keepLeast: of the prices those for which it is least.
func keepLeast(all []int, of func(int) int) []int {
	var kept []int
	least := math.MaxInt
	for _, p := range all {
		n := of(p)
		if n < least {
			kept, least = nil, n
		}
		if n == least {
			kept = append(kept, p)
		}
	}
	return kept
}

func distance(a, b int) int {
	if a < b {
		return b - a
	}
	return a - b
}

func TestPriceOfDraws(t *testing.T) {
	none, some := 0, 0
	for _, l := range draws() {
		for _, ref := range references(l) {
			price, volume := chosen(l, ref)
			wantPrice(t, l, ref, price, volume)
			if price == 0 {
				none++
			} else {
				some++
			}
		}
	}
	if none == 0 || some == 0 {
		t.Error("no lists of both sorts:", none, some)
	}
}

func references(l []api.Lot) []int {
	refs := []int{1, 1000}
	for _, x := range l[:min(2, len(l))] {
		refs = append(refs, max(1, x.Price-1), x.Price, min(1000, x.Price+2))
	}
	return refs
}

func TestNoOtherPriceTradesMore(t *testing.T) {
	for _, l := range draws() {
		price, volume, err := clear.Price(l, 500)
		if err != nil || volume != curve.Volume(l, price) {
			t.Fatalf("Price(%v) = %d, %d, %v, and %d are traded there", l, price, volume, err, curve.Volume(l, price))
		}
		for p := -1; p <= 1002; p++ {
			if traded(l, p) > volume {
				t.Fatalf("at %d %d are traded, at %d %d of %v", price, volume, p, traded(l, p), l)
			}
		}
	}
}

// How lots stand in their list does not matter.
func TestOrderOfLots(t *testing.T) {
	for _, l := range draws() {
		price, volume, _ := clear.Price(l, 400)
		back := slices.Clone(l)
		slices.Reverse(back)
		wantPrice(t, back, 400, price, volume)
	}
}

// Lots are only read, and only within their length.
func TestLotsAreOnlyRead(t *testing.T) {
	all := []api.Lot{sell(1, 9, 4), buy(2, 12, 3), buy(3, 10, 2), {ID: 1, Price: -1}, buy(2, 1000, 1000)}
	l, was := all[:3], slices.Clone(all)
	for range 2 {
		wantPrice(t, l, 500, 10, 4)
		wantShort(t, l, 10, api.Sell)
		wantStrict(t, l, api.Buy, 10, 3)
		wantStrict(t, l, api.Sell, 10, 4)
	}
	if !slices.Equal(all, was) {
		t.Errorf("lots are now %v, were %v", all, was)
	}
}
