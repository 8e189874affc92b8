package purse_test

import (
	"math"
	"testing"

	"gavelhouse/api"
	"gavelhouse/purse"
)

func trade(t *testing.T, p *purse.Purse, item int, buy, sell api.Lot, price, qty int) {
	t.Helper()
	if err := p.Trade(item, buy, sell, price, qty); err != nil {
		t.Fatalf("Trade(%d, %v, %v, %d, %d) = %v", item, buy, sell, price, qty, err)
	}
}

func wantNoTrade(t *testing.T, p *purse.Purse, item int, buy, sell api.Lot, price, qty int, want error) {
	t.Helper()
	wantKept(t, p, func() error { return p.Trade(item, buy, sell, price, qty) }, want)
}

// ready: client 1 holds for a buy of 8 at 10, client 2 for a sell of 6 at 5, both of item 1.
func ready(t *testing.T) (p *purse.Purse, buy, sell api.Lot) {
	t.Helper()
	p, buy, sell = purse.New(), lot(1, api.Buy, 10, 8), lot(2, api.Sell, 5, 6)
	give(t, p, 1, 100, stocks{1, 2, 3})
	give(t, p, 2, 50, stocks{10, 20, 30})
	hold(t, p, 1, buy)
	hold(t, p, 1, sell)
	return p, buy, sell
}

func TestTrade(t *testing.T) {
	p, buy, sell := ready(t)
	trade(t, p, 1, buy, sell, 7, 4)
	want := [6]purse.Has{
		1: {Cash: 72, Held: 40, Stock: stocks{1, 6, 3}},
		2: {Cash: 78, Stock: stocks{10, 16, 30}, Kept: stocks{0, 2, 0}},
	}
	wantAll(t, p, want)
	trade(t, p, 1, buy, sell, 10, 1) // the buy's own price
	trade(t, p, 1, buy, sell, 5, 1)  // the sell's own
	want[1] = purse.Has{Cash: 57, Held: 20, Stock: stocks{1, 8, 3}}
	want[2] = purse.Has{Cash: 93, Stock: stocks{10, 14, 30}}
	wantAll(t, p, want)
	wantTotal(t, p, 150, stocks{11, 22, 33})
	free(t, p, 1, lot(1, api.Buy, 10, 2)) // what is left of the buy
	wantNoFree(t, p, 1, lot(1, api.Buy, 1, 1), api.ErrPoor)
}

func TestTradeOfEveryPair(t *testing.T) {
	for item := range 3 {
		for buyer := range 6 {
			for seller := range 6 {
				p, want := purse.New(), [6]purse.Has{}
				for i := range want {
					want[i] = purse.Has{Cash: 500, Stock: stocks{50, 50, 50}}
					give(t, p, i, 500, want[i].Stock)
				}
				buy, sell := lot(buyer, api.Buy, 9, 4), lot(seller, api.Sell, 4, 7)
				hold(t, p, item, buy)
				hold(t, p, item, sell)
				trade(t, p, item, buy, sell, 6, 3)
				want[buyer].Cash -= 18
				want[seller].Cash += 18
				want[buyer].Held = 9
				want[buyer].Stock[item] += 3
				want[seller].Stock[item] -= 3
				want[seller].Kept[item] = 4
				wantAll(t, p, want)
			}
		}
	}
}

func TestTradeOfTheMost(t *testing.T) {
	p := purse.New()
	buy := api.Lot{ID: 1 << 30, Owner: 5, Side: api.Buy, Price: 1000, Qty: 1000}
	sell := api.Lot{ID: 1, Owner: 0, Side: api.Sell, Price: 1000, Qty: 1000}
	give(t, p, 5, 1000000, stocks{0, 0, maxStock - 1000})
	give(t, p, 0, maxCash-1000000, stocks{0, 0, 1000})
	hold(t, p, 2, buy)
	hold(t, p, 2, sell)
	trade(t, p, 2, buy, sell, 1000, 1000)
	wantAll(t, p, [6]purse.Has{0: {Cash: maxCash}, 5: {Stock: stocks{0, 0, maxStock}}})
}

func TestTradeOfTheLeast(t *testing.T) {
	p := purse.New()
	give(t, p, 0, 1, stocks{})
	give(t, p, 1, 0, stocks{1})
	hold(t, p, 0, lot(0, api.Buy, 1, 1))
	hold(t, p, 0, lot(1, api.Sell, 1, 1))
	trade(t, p, 0, lot(0, api.Buy, 1, 1), lot(1, api.Sell, 1, 1), 1, 1)
	wantAll(t, p, [6]purse.Has{0: {Stock: stocks{1}}, 1: {Cash: 1}})
}

// Both lots may have one ID: each is looked at alone.
func TestTradeOfOneID(t *testing.T) {
	p, buy, sell := ready(t)
	buy.ID, sell.ID = 77, 77
	trade(t, p, 1, buy, sell, 6, 6)
	buy.ID = 78
	hold(t, p, 1, sell)
	trade(t, p, 1, buy, sell, 6, 2)
}

func TestTradeBounds(t *testing.T) {
	p, buy, sell := ready(t)
	wantBad(t, func(item int, l api.Lot) {
		wantNoTrade(t, p, item, l, sell, 7, 1, api.ErrBound)
		wantNoTrade(t, p, item, buy, l, 7, 1, api.ErrBound)
		wantNoTrade(t, p, item, l, l, 7, 1, api.ErrBound)
	})
	for _, price := range []int{0, -1, -7, 1001, 7 + 1<<32, math.MinInt, math.MaxInt} {
		wantNoTrade(t, p, 1, buy, sell, price, 1, api.ErrBound)
	}
	for _, qty := range []int{0, -1, 7, 8, 1 << 32, 1<<32 + 1, math.MinInt, math.MaxInt} {
		wantNoTrade(t, p, 1, buy, sell, 7, qty, api.ErrBound)
	}
	trade(t, p, 1, buy, sell, 7, 6)
}

// The lesser Qty counts, be it the buy's or the sell's, though more is held.
func TestTradeAtMostTheLesser(t *testing.T) {
	p := rich(t)
	hold(t, p, 0, lot(1, api.Buy, 100, 100))
	hold(t, p, 0, lot(1, api.Sell, 100, 100))
	few := lot(1, api.Buy, 10, 3)
	wantNoTrade(t, p, 0, few, lot(1, api.Sell, 10, 50), 10, 4, api.ErrBound)
	trade(t, p, 0, few, lot(1, api.Sell, 10, 50), 10, 3)
	few = lot(1, api.Sell, 10, 3)
	wantNoTrade(t, p, 0, lot(1, api.Buy, 10, 50), few, 10, 4, api.ErrBound)
	trade(t, p, 0, lot(1, api.Buy, 10, 50), few, 10, 3)
}

func TestTradeShape(t *testing.T) {
	p, buy, sell := ready(t)
	wantNoTrade(t, p, 1, sell, buy, 7, 1, api.ErrShape)
	wantNoTrade(t, p, 1, buy, buy, 7, 1, api.ErrShape)
	wantNoTrade(t, p, 1, sell, sell, 7, 1, api.ErrShape)
}

func TestTradeOrder(t *testing.T) {
	p, buy, sell := ready(t)
	for _, price := range []int{11, 12, 1000, 4, 3, 1} {
		wantNoTrade(t, p, 1, buy, sell, price, 1, api.ErrOrder)
	}
	sell.Price = 11 // they do not cross: no price is between
	for _, price := range []int{10, 11} {
		wantNoTrade(t, p, 1, buy, sell, price, 1, api.ErrOrder)
	}
}

func TestTradePoor(t *testing.T) {
	p, buy, sell := ready(t)
	free(t, p, 1, lot(1, api.Buy, 39, 1)) // 41 are held: enough for 4 at 10, not for 5
	wantNoTrade(t, p, 1, buy, sell, 5, 5, api.ErrPoor)
	wantNoTrade(t, p, 1, buy, sell, 10, 5, api.ErrPoor)
	trade(t, p, 1, buy, sell, 5, 4)
	wantNoTrade(t, p, 1, buy, sell, 5, 1, api.ErrPoor)

	p, buy, sell = ready(t)
	free(t, p, 1, lot(2, api.Sell, 1, 3)) // 3 are kept
	wantNoTrade(t, p, 1, buy, sell, 5, 4, api.ErrPoor)
	trade(t, p, 1, buy, sell, 5, 3)
	wantNoTrade(t, p, 1, buy, sell, 5, 1, api.ErrPoor)
	wantNoTrade(t, p, 0, buy, sell, 5, 1, api.ErrPoor) // of the other items nothing is kept
	wantNoTrade(t, p, 2, buy, sell, 5, 1, api.ErrPoor)
}

// What is there, but not held, is not traded; and what another one holds is not either.
func TestTradeOfWhatIsNotHeld(t *testing.T) {
	p := rich(t)
	buy, sell := lot(1, api.Buy, 10, 8), lot(2, api.Sell, 5, 6)
	wantNoTrade(t, p, 1, buy, sell, 7, 1, api.ErrPoor)
	hold(t, p, 1, lot(2, api.Buy, 10, 8))
	hold(t, p, 1, lot(1, api.Sell, 5, 6))
	wantNoTrade(t, p, 1, buy, sell, 7, 1, api.ErrPoor)
	hold(t, p, 1, sell)
	wantNoTrade(t, p, 1, buy, sell, 7, 1, api.ErrPoor)
}

func TestTradeFull(t *testing.T) {
	p, buy, sell := ready(t)
	give(t, p, 2, maxCash-50-20, stocks{})
	wantNoTrade(t, p, 1, buy, sell, 7, 3, api.ErrFull)
	wantNoTrade(t, p, 1, buy, sell, 5, 5, api.ErrFull)
	trade(t, p, 1, buy, sell, 5, 4)
	wantNoTrade(t, p, 1, buy, sell, 5, 1, api.ErrFull)

	p, buy, sell = ready(t)
	give(t, p, 1, 0, stocks{maxStock - 1, maxStock - 2 - 3, maxStock - 3})
	wantNoTrade(t, p, 1, buy, sell, 5, 4, api.ErrFull)
	trade(t, p, 1, buy, sell, 5, 3)
	wantNoTrade(t, p, 1, buy, sell, 5, 1, api.ErrFull)
}

// Only what comes in can be too great: a buyer may be full of cash, and a seller of stock.
func TestTradeOfWhoIsFullAndGives(t *testing.T) {
	p, buy, sell := ready(t)
	give(t, p, 1, maxCash-100, stocks{})
	give(t, p, 2, 0, stocks{0, maxStock - 20, 0})
	trade(t, p, 1, buy, sell, 10, 6)
	wantOf(t, p, 1, purse.Has{Cash: maxCash - 60, Held: 20, Stock: stocks{1, 8, 3}})
	wantOf(t, p, 2, purse.Has{Cash: 110, Stock: stocks{10, maxStock - 6, 30}})
}

// Who trades with itself has as much as ahead of it, though it be full; only holds go.
func TestTradeWithItself(t *testing.T) {
	for client := range 6 {
		p := rich(t)
		want := all(p)
		buy, sell := lot(client, api.Buy, 9, 5), lot(client, api.Sell, 3, 4)
		hold(t, p, 2, buy)
		hold(t, p, 2, sell)
		trade(t, p, 2, buy, sell, 5, 4)
		want[client].Held = 9
		wantAll(t, p, want)
		wantNoTrade(t, p, 2, buy, sell, 5, 1, api.ErrPoor)
	}
	p := purse.New()
	give(t, p, 3, 10, stocks{1})
	buy, sell := lot(3, api.Buy, 10, 1), lot(3, api.Sell, 10, 1)
	hold(t, p, 0, buy)
	wantNoTrade(t, p, 0, buy, sell, 10, 1, api.ErrPoor)
	hold(t, p, 0, sell)
	trade(t, p, 0, buy, sell, 10, 1)
	wantOf(t, p, 3, purse.Has{Cash: 10, Stock: stocks{1}})
}

// Each call has its error and all that are named behind it.
func TestTradeOrderOfErrors(t *testing.T) {
	p := rich(t) // whoever gets is too full, and nothing is held
	buy, sell := lot(1, api.Buy, 10, 8), lot(2, api.Sell, 5, 6)
	bad := api.Lot{Side: api.Sell}
	wantNoTrade(t, p, 3, sell, buy, 0, 0, api.ErrBound)
	wantNoTrade(t, p, 1, bad, buy, 7, 1, api.ErrBound)
	wantNoTrade(t, p, 1, sell, bad, 7, 1, api.ErrBound)
	wantNoTrade(t, p, 1, sell, buy, 0, 1, api.ErrShape)
	wantNoTrade(t, p, 1, sell, buy, 7, 9, api.ErrShape)
	wantNoTrade(t, p, 1, sell, buy, 11, 1, api.ErrShape)
	wantNoTrade(t, p, 1, buy, sell, 0, 1, api.ErrBound)
	wantNoTrade(t, p, 1, buy, sell, 1001, 1, api.ErrBound)
	wantNoTrade(t, p, 1, buy, sell, 11, 7, api.ErrBound)
	wantNoTrade(t, p, 1, buy, sell, 4, 0, api.ErrBound)
	wantNoTrade(t, p, 1, buy, sell, 11, 6, api.ErrOrder)
	wantNoTrade(t, p, 1, buy, sell, 4, 6, api.ErrOrder)
	wantNoTrade(t, p, 1, buy, sell, 7, 6, api.ErrPoor)
	hold(t, p, 1, buy)
	wantNoTrade(t, p, 1, buy, sell, 7, 6, api.ErrPoor)
	hold(t, p, 1, sell)
	wantNoTrade(t, p, 1, buy, sell, 7, 6, api.ErrFull)
}
