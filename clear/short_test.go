package clear_test

import (
	"math"
	"math/rand"
	"testing"

	"gavelhouse/api"
	"gavelhouse/clear"
)

func buy(id, price, qty int) api.Lot {
	return api.Lot{ID: id, Side: api.Buy, Price: price, Qty: qty}
}

func sell(id, price, qty int) api.Lot {
	return api.Lot{ID: id, Side: api.Sell, Price: price, Qty: qty}
}

// alternate: buys and sells of one item at 500, in turn.
func alternate(n int) []api.Lot {
	var l []api.Lot
	for i := range n {
		l = append(l, api.Lot{ID: i + 1, Side: i % 2, Price: 500, Qty: 1})
	}
	return l
}

// draws of lots that are well: few and many, of near and of far prices, of like and of unlike quantities.
func draws() [][]api.Lot {
	r := rand.New(rand.NewSource(4))
	var all [][]api.Lot
	for range 20 {
		for _, prices := range []int{1, 3, 12, 1000} {
			all = append(all, drawn(r, r.Intn(121), prices, 50), drawn(r, r.Intn(9), prices, 3))
		}
	}
	return all
}

func drawn(r *rand.Rand, n, prices, qty int) []api.Lot {
	var l []api.Lot
	first := r.Intn(1000-prices+1) + 1
	for _, id := range r.Perm(n) {
		l = append(l, api.Lot{ID: id*9 + 1, Owner: r.Intn(6), Side: r.Intn(2), Price: first + r.Intn(prices), Qty: r.Intn(qty) + 1})
	}
	return l
}

// total of a side at a price, made without the program.
func total(l []api.Lot, side, p int) int {
	n := 0
	for _, x := range l {
		if x.Side == side && (side == 0 && x.Price >= p || side == 1 && x.Price <= p) {
			n += x.Qty
		}
	}
	return n
}

func traded(l []api.Lot, p int) int { return min(total(l, 0, p), total(l, 1, p)) }

func wantShort(t *testing.T, l []api.Lot, price, want int) {
	t.Helper()
	if got := clear.Short(l, price); got != want {
		t.Errorf("Short(%v, %d) = %d, want %d", l, price, got, want)
	}
}

func wantStrict(t *testing.T, l []api.Lot, side, price, want int) {
	t.Helper()
	if got := clear.Strict(l, side, price); got != want {
		t.Errorf("Strict(%v, %d, %d) = %d, want %d", l, side, price, got, want)
	}
}

// wantNothing: of lots that are not well no side is short, and none is strictly better.
func wantNothing(t *testing.T, l []api.Lot) {
	t.Helper()
	for _, p := range []int{math.MinInt, 0, 1, 9, 10, 500, 1000, 1001, math.MaxInt} {
		wantShort(t, l, p, -1)
		for _, side := range []int{-1, api.Buy, api.Sell, 2} {
			wantStrict(t, l, side, p, 0)
		}
	}
}

func TestShort(t *testing.T) {
	b, s := buy(1, 10, 5), sell(2, 8, 4)
	for _, c := range []struct {
		price                   int
		buys, sells, both, even int
	}{
		{math.MinInt, api.Sell, -1, api.Sell, api.Sell},
		{0, api.Sell, -1, api.Sell, api.Sell},
		{7, api.Sell, -1, api.Sell, api.Sell},
		{8, api.Sell, api.Buy, api.Sell, -1},
		{10, api.Sell, api.Buy, api.Sell, -1},
		{11, -1, api.Buy, api.Buy, api.Buy},
		{1001, -1, api.Buy, api.Buy, api.Buy},
		{math.MaxInt, -1, api.Buy, api.Buy, api.Buy},
	} {
		wantShort(t, nil, c.price, -1)
		wantShort(t, []api.Lot{}, c.price, -1)
		wantShort(t, []api.Lot{b}, c.price, c.buys)
		wantShort(t, []api.Lot{s}, c.price, c.sells)
		wantShort(t, []api.Lot{b, s}, c.price, c.both)
		wantShort(t, []api.Lot{s, b, sell(3, 8, 1)}, c.price, c.even)
	}
	wantShort(t, []api.Lot{b, s, sell(3, 8, 2)}, 9, api.Buy)
}

func TestShortOfDraws(t *testing.T) {
	for _, l := range draws() {
		for _, p := range references(l) {
			want := -1
			if buys, sells := total(l, 0, p), total(l, 1, p); buys < sells {
				want = api.Buy
			} else if buys > sells {
				want = api.Sell
			}
			wantShort(t, l, p, want)
		}
	}
}

func TestStrict(t *testing.T) {
	l := []api.Lot{buy(1, 10, 1), sell(2, 10, 100), buy(3, 11, 2), sell(4, 9, 200), buy(5, 1000, 4), sell(6, 1, 400), buy(7, 1, 8), sell(8, 1000, 800)}
	for _, c := range []struct{ price, buys, sells int }{
		{math.MinInt, 15, 0}, {-1, 15, 0}, {0, 15, 0},
		{1, 7, 0}, {2, 7, 400}, {9, 7, 400}, {10, 6, 600}, {11, 4, 700}, {12, 4, 700}, {999, 4, 700}, {1000, 0, 700},
		{1001, 0, 1500}, {1002, 0, 1500}, {math.MaxInt, 0, 1500},
	} {
		wantStrict(t, l, api.Buy, c.price, c.buys)
		wantStrict(t, l, api.Sell, c.price, c.sells)
		wantStrict(t, nil, api.Buy, c.price, 0)
		wantStrict(t, []api.Lot{}, api.Sell, c.price, 0)
		for _, side := range []int{math.MinInt, -1, 2, 3, 1 << 32, math.MaxInt} {
			wantStrict(t, l, side, c.price, 0)
		}
	}
}

func TestStrictOfDraws(t *testing.T) {
	for _, l := range draws() {
		for _, p := range references(l) {
			// who is as good at the next price is strictly better than this one
			wantStrict(t, l, api.Buy, p, total(l, 0, p+1))
			wantStrict(t, l, api.Sell, p, total(l, 1, p-1))
		}
	}
}
