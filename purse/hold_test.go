package purse_test

import (
	"math"
	"testing"

	"gavelhouse/api"
	"gavelhouse/purse"
)

func lot(owner, side, price, qty int) api.Lot {
	return api.Lot{ID: 1, Owner: owner, Side: side, Price: price, Qty: qty}
}

func hold(t *testing.T, p *purse.Purse, item int, l api.Lot) {
	t.Helper()
	if err := p.Hold(item, l); err != nil {
		t.Fatalf("Hold(%d, %v) = %v", item, l, err)
	}
}

func free(t *testing.T, p *purse.Purse, item int, l api.Lot) {
	t.Helper()
	if err := p.Free(item, l); err != nil {
		t.Fatalf("Free(%d, %v) = %v", item, l, err)
	}
}

func wantNoHold(t *testing.T, p *purse.Purse, item int, l api.Lot, want error) {
	t.Helper()
	wantKept(t, p, func() error { return p.Hold(item, l) }, want)
}

func wantNoFree(t *testing.T, p *purse.Purse, item int, l api.Lot, want error) {
	t.Helper()
	wantKept(t, p, func() error { return p.Free(item, l) }, want)
}

// rich: each client has as much as may be.
func rich(t *testing.T) *purse.Purse {
	t.Helper()
	p := purse.New()
	for client := range 6 {
		give(t, p, client, maxCash, stocks{maxStock, maxStock, maxStock})
	}
	return p
}

// wantBad: each lot with one field beside its bounds, and each number of no item, has ErrBound.
func wantBad(t *testing.T, call func(item int, l api.Lot)) {
	t.Helper()
	field := []func(*api.Lot) *int{
		func(x *api.Lot) *int { return &x.ID },
		func(x *api.Lot) *int { return &x.Owner },
		func(x *api.Lot) *int { return &x.Side },
		func(x *api.Lot) *int { return &x.Price },
		func(x *api.Lot) *int { return &x.Qty },
	}
	low, top := []int{1, 0, 0, 1, 1}, []int{1 << 30, 5, 1, 1000, 1000}
	for _, side := range []int{api.Buy, api.Sell} {
		for i, of := range field {
			for _, to := range []int{low[i] - 1, top[i] + 1, low[i] + 1<<32, math.MinInt, math.MaxInt} {
				x := lot(2, side, 2, 2)
				*of(&x) = to
				call(1, x)
			}
		}
		for _, item := range append(strange, 3) {
			call(item, lot(2, side, 2, 2))
		}
	}
	call(0, api.Lot{})
	call(-1, api.Lot{})
}

func TestHoldAndFree(t *testing.T) {
	for client := range 6 {
		for item := range 3 {
			p := rich(t)
			was := all(p)
			want := was
			hold(t, p, item, lot(client, api.Buy, 7, 5))
			want[client].Held = 35
			wantAll(t, p, want)
			hold(t, p, (item+1)%3, lot(client, api.Buy, 1, 1)) // cash is one for all items
			want[client].Held = 36
			wantAll(t, p, want)
			hold(t, p, item, lot(client, api.Sell, 7, 5))
			want[client].Kept[item] = 5
			wantAll(t, p, want)
			hold(t, p, item, lot(client, api.Sell, 1000, 1))
			want[client].Kept[item] = 6
			wantAll(t, p, want)
			free(t, p, item, lot(client, api.Sell, 3, 2))
			want[client].Kept[item] = 4
			wantAll(t, p, want)
			free(t, p, (item+2)%3, lot(client, api.Buy, 6, 6))
			want[client].Held = 0
			wantAll(t, p, want)
			free(t, p, item, lot(client, api.Sell, 1, 4))
			wantAll(t, p, was)
		}
	}
}

func TestHoldOfTheLeastAndTheMost(t *testing.T) {
	for _, x := range []api.Lot{
		{ID: 1, Owner: 0, Side: api.Buy, Price: 1, Qty: 1},
		{ID: 1 << 30, Owner: 5, Side: api.Buy, Price: 1000, Qty: 1000},
		{ID: 1, Owner: 0, Side: api.Sell, Price: 1, Qty: 1},
		{ID: 1 << 30, Owner: 5, Side: api.Sell, Price: 1000, Qty: 1000},
	} {
		p := purse.New()
		cash, stock := 0, stocks{}
		if x.Side == api.Buy {
			cash = x.Price * x.Qty
		} else {
			stock[1] = x.Qty
		}
		give(t, p, x.Owner, cash, stock)
		hold(t, p, 1, x)
		wantOf(t, p, x.Owner, purse.Has{Cash: cash, Held: cash, Stock: stock, Kept: stock})
		wantNoHold(t, p, 1, lot(x.Owner, x.Side, 1, 1), api.ErrPoor)
		free(t, p, 1, x)
		wantOf(t, p, x.Owner, purse.Has{Cash: cash, Stock: stock})
		wantNoFree(t, p, 1, lot(x.Owner, x.Side, 1, 1), api.ErrPoor)
	}
}

func TestHoldBounds(t *testing.T) {
	p := rich(t)
	for client := range 6 {
		hold(t, p, 1, lot(client, api.Buy, 1000, 1000))
		hold(t, p, 1, lot(client, api.Sell, 1, 1000))
	}
	wantBad(t, func(item int, l api.Lot) { wantNoHold(t, p, item, l, api.ErrBound) })
	wantBad(t, func(item int, l api.Lot) { wantNoFree(t, p, item, l, api.ErrBound) })
}

// Nobody has anything: what is out of bounds is told ahead of that.
func TestHoldOrderOfErrors(t *testing.T) {
	p := purse.New()
	wantBad(t, func(item int, l api.Lot) { wantNoHold(t, p, item, l, api.ErrBound) })
	wantBad(t, func(item int, l api.Lot) { wantNoFree(t, p, item, l, api.ErrBound) })
	wantNoHold(t, p, 0, lot(0, api.Buy, 1, 1), api.ErrPoor)
	wantNoHold(t, p, 0, lot(0, api.Sell, 1, 1), api.ErrPoor)
	wantNoFree(t, p, 0, lot(0, api.Buy, 1, 1), api.ErrPoor)
	wantNoFree(t, p, 0, lot(0, api.Sell, 1, 1), api.ErrPoor)
}

// Cash is asked of buys alone, stock of sells alone, and of the item and the owner alone.
func TestHoldPoor(t *testing.T) {
	p := purse.New()
	give(t, p, 1, 99, stocks{0, 9, 0})
	give(t, p, 2, 1000, stocks{50, 50, 50})
	wantNoHold(t, p, 1, lot(1, api.Buy, 10, 10), api.ErrPoor)
	wantNoHold(t, p, 1, lot(1, api.Buy, 100, 1), api.ErrPoor)
	wantNoHold(t, p, 1, lot(1, api.Buy, 1, 100), api.ErrPoor)
	wantNoHold(t, p, 1, lot(1, api.Sell, 1, 10), api.ErrPoor)
	wantNoHold(t, p, 0, lot(1, api.Sell, 1, 1), api.ErrPoor)
	wantNoHold(t, p, 2, lot(1, api.Sell, 1, 1), api.ErrPoor)
	hold(t, p, 1, lot(1, api.Sell, 1000, 9))
	hold(t, p, 1, lot(1, api.Buy, 9, 10))
	wantNoHold(t, p, 1, lot(1, api.Buy, 10, 1), api.ErrPoor)
	hold(t, p, 0, lot(1, api.Buy, 3, 3))
	wantOf(t, p, 1, purse.Has{Cash: 99, Held: 99, Stock: stocks{0, 9, 0}, Kept: stocks{0, 9, 0}})
	wantNoHold(t, p, 1, lot(1, api.Buy, 1, 1), api.ErrPoor)
	wantNoHold(t, p, 1, lot(1, api.Sell, 1, 1), api.ErrPoor)
	give(t, p, 1, 1, stocks{0, 1, 0})
	hold(t, p, 1, lot(1, api.Buy, 1, 1))
	hold(t, p, 1, lot(1, api.Sell, 1, 1))
}

// Only what is held can be free: of this owner, this item, this side.
func TestFreePoor(t *testing.T) {
	p := rich(t)
	hold(t, p, 1, lot(3, api.Buy, 10, 10))
	hold(t, p, 1, lot(3, api.Sell, 10, 10))
	for _, x := range []api.Lot{
		lot(3, api.Buy, 101, 1), lot(3, api.Buy, 1, 101), lot(3, api.Sell, 1, 11),
		lot(2, api.Buy, 1, 1), lot(2, api.Sell, 1, 1), lot(4, api.Buy, 10, 10), lot(4, api.Sell, 10, 10),
	} {
		wantNoFree(t, p, 1, x, api.ErrPoor)
	}
	wantNoFree(t, p, 0, lot(3, api.Sell, 1, 1), api.ErrPoor)
	wantNoFree(t, p, 2, lot(3, api.Sell, 1, 1), api.ErrPoor)
	free(t, p, 1, lot(3, api.Sell, 1, 10))
	wantNoFree(t, p, 1, lot(3, api.Sell, 1, 1), api.ErrPoor)
	free(t, p, 1, lot(3, api.Buy, 100, 1))
	wantNoFree(t, p, 1, lot(3, api.Buy, 1, 1), api.ErrPoor)
	wantAll(t, p, all(rich(t)))
}

// A purse knows sums, not lots: one ID may be held for twice, and be free as another.
func TestHoldKnowsNoIDs(t *testing.T) {
	p := rich(t)
	x, y := lot(0, api.Buy, 10, 10), lot(0, api.Buy, 50, 4)
	y.ID = 1 << 30
	hold(t, p, 0, x)
	hold(t, p, 0, x)
	free(t, p, 2, y)
	wantAll(t, p, all(rich(t)))
}
