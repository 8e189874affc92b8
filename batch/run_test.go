package batch_test

import (
	"fmt"
	"math"
	"testing"

	"gavelhouse/api"
	"gavelhouse/band"
	"gavelhouse/batch"
	"gavelhouse/purse"
)

func wantRun(t *testing.T, f *batch.Floor, n int, seed uint32, want string) {
	t.Helper()
	r, err := f.Run(n, seed)
	if got := fmt.Sprint(r); got != want || err != nil {
		t.Errorf("Run(%d, %d) = %s, %v, want %s", n, seed, got, err, want)
	}
}

// The document's own: buys of 5 at 10 and 3 at 8, a sell of 4 at 9.
func TestRunOfTheExample(t *testing.T) {
	f := newFloor(t, tenth, 9, 1000, 10)
	place(t, f, ask(0, 0, api.Buy, 10, 5, 1))
	place(t, f, ask(1, 0, api.Buy, 8, 3, 2))
	place(t, f, ask(2, 0, api.Sell, 9, 4, 3))
	wantRun(t, f, 0, 1, "{9 4 true [{1 4} {3 4}]}")
	wantBook(t, f, 0, api.Lot{ID: 1, Owner: 0, Side: api.Buy, Price: 10, Qty: 1}, api.Lot{ID: 2, Owner: 1, Side: api.Buy, Price: 8, Qty: 3})
	wantHas(t, f, 0, purse.Has{Cash: 964, Held: 10, Stock: stocks{14, 10, 10}})
	wantHas(t, f, 1, purse.Has{Cash: 1000, Held: 24, Stock: stocks{10, 10, 10}})
	wantHas(t, f, 2, purse.Has{Cash: 1036, Stock: stocks{6, 10, 10}})
}

func TestRunOfNothing(t *testing.T) {
	f := newFloor(t, tenth, 100, 1000, 10)
	for n := range 3 {
		wantKept(t, f, nil, func() error {
			wantRun(t, f, n, 1, "{0 0 true []}")
			return nil
		})
	}
	place(t, f, ask(0, 0, api.Buy, 99, 5, 1))
	place(t, f, ask(1, 0, api.Sell, 100, 5, 2))
	place(t, f, ask(0, 1, api.Buy, 99, 5, 1))
	place(t, f, ask(0, 2, api.Sell, 99, 5, 1))
	for n := range 3 {
		wantKept(t, f, nil, func() error {
			wantRun(t, f, n, 1, "{0 0 true []}")
			return nil
		})
	}
}

// Several buys and sells, whose quantities do not go into each other: what is left of one goes on with the next.
func TestRunOfManyPairs(t *testing.T) {
	f := newFloor(t, tenth, 100, 5000, 20)
	place(t, f, ask(0, 1, api.Buy, 104, 3, 1))
	place(t, f, ask(3, 1, api.Sell, 96, 5, 2))
	place(t, f, ask(1, 1, api.Buy, 102, 7, 3))
	place(t, f, ask(4, 1, api.Sell, 98, 1, 4))
	place(t, f, ask(2, 1, api.Buy, 101, 2, 5))
	place(t, f, ask(5, 1, api.Sell, 99, 6, 6))
	wantRun(t, f, 1, 5, "{100 12 true [{1 3} {3 7} {5 2} {2 5} {4 1} {6 6}]}")
	wantBook(t, f, 1)
	for client, want := range []purse.Has{
		{Cash: 4700, Stock: stocks{20, 23, 20}}, {Cash: 4300, Stock: stocks{20, 27, 20}}, {Cash: 4800, Stock: stocks{20, 22, 20}},
		{Cash: 5500, Stock: stocks{20, 15, 20}}, {Cash: 5100, Stock: stocks{20, 19, 20}}, {Cash: 5600, Stock: stocks{20, 14, 20}},
	} {
		wantHas(t, f, client, want)
	}
}

// Lots of one price are drawn by the seed, the sells' by the seed and 1.
func TestRunDrawsByItsSeed(t *testing.T) {
	orders := map[string]int{}
	for seed := range uint32(40) {
		for _, side := range []int{api.Buy, api.Sell} {
			f := newFloor(t, tenth, 100, 5000, 20)
			for id := 1; id <= 4; id++ {
				place(t, f, ask(id-1, 0, side, 100, 2, id))
			}
			place(t, f, ask(5, 0, 1-side, 100, 8-3, 9))
			from := seed + uint32(side)
			order := shuffled(4, from)
			first := fmt.Sprintf("{%d 2} {%d 2} {%d 1}", order[0]+1, order[1]+1, order[2]+1)
			if side == api.Buy {
				wantRun(t, f, 0, seed, "{100 5 true ["+first+" {9 5}]}")
			} else {
				wantRun(t, f, 0, seed, "{100 5 true [{9 5} "+first+"]}")
			}
			orders[first]++
		}
	}
	if len(orders) < 12 {
		t.Errorf("%d orders alone are drawn", len(orders))
	}
	f := newFloor(t, tenth, 100, 5000, 20)
	place(t, f, ask(0, 0, api.Buy, 100, 1, 1))
	place(t, f, ask(0, 0, api.Sell, 100, 1, 2))
	place(t, f, ask(0, 0, api.Sell, 100, 1, 3))
	order := shuffled(2, 0) // the seed and 1 goes round
	wantRun(t, f, 0, math.MaxUint32, fmt.Sprintf("{100 1 true [{1 1} {%d 1}]}", order[0]+2))
}

// Who buys from itself has as much as ahead; its holds go.
func TestRunOfOneClient(t *testing.T) {
	f := newFloor(t, tenth, 100, 525, 5)
	place(t, f, ask(2, 2, api.Buy, 105, 5, 1))
	place(t, f, ask(2, 2, api.Sell, 95, 5, 2))
	wantRun(t, f, 2, 0, "{100 5 true [{1 5} {2 5}]}")
	wantHas(t, f, 2, purse.Has{Cash: 525, Stock: stocks{5, 5, 5}})
	wantBook(t, f, 2)
}

func TestRunMovesTheReference(t *testing.T) {
	f := newFloor(t, tenth, 100, 100000, 100)
	for i, c := range []struct{ buy, sell, price int }{
		{110, 90, 100}, {110, 105, 105}, {120, 115, 115}, {126, 126, 126}, {115, 114, 115}, {110, 100, 110},
	} {
		place(t, f, ask(0, 0, api.Buy, c.buy, 1, 1))
		place(t, f, ask(1, 0, api.Sell, c.sell, 1, 2))
		wantRun(t, f, 0, uint32(i), fmt.Sprintf("{%d 1 true [{1 1} {2 1}]}", c.price))
		wantBand(t, f, 0, band.Band{Ref: c.price})
	}
	wantBand(t, f, 1, band.Band{Ref: 100}) // each item has its own
	wantBand(t, f, 2, band.Band{Ref: 100})
}

// The document's own: with a reference of 100 and a width of 10, 110 is within, and 111 is not.
func TestRunAtTheEdgeOfItsBand(t *testing.T) {
	for price, open := range map[int]bool{90: true, 89: false, 110: true, 111: false, 1: false, 1000: false} {
		f := newFloor(t, tenth, 100, 100000, 100)
		place(t, f, ask(0, 2, api.Buy, price, 1, 1))
		place(t, f, ask(1, 2, api.Sell, price, 1, 2))
		ahead := f.Purse().Of(0)
		r, err := f.Run(2, 1)
		if err != nil || r.Price != price || r.Volume != 1 || r.Open != open || (len(r.Fills) == 2) != open || !open && len(r.Fills) > 0 {
			t.Errorf("at %d: %v, %v", price, r, err)
		}
		if open {
			wantBand(t, f, 2, band.Band{Ref: price})
			continue
		}
		wantBand(t, f, 2, band.Band{Ref: 100, Left: 2})
		wantHas(t, f, 0, ahead)
		wantBook(t, f, 2, api.Lot{ID: 1, Side: api.Buy, Price: price, Qty: 1}, api.Lot{ID: 2, Owner: 1, Side: api.Sell, Price: price, Qty: 1})
	}
}

// In a halt lots come and go, and nothing is traded; the candidate is told all the same.
func TestRunInAHalt(t *testing.T) {
	f := newFloor(t, band.Rule{Width: 5, Halt: 3}, 100, 100000, 100)
	place(t, f, ask(0, 0, api.Buy, 130, 2, 1))
	place(t, f, ask(1, 0, api.Sell, 120, 2, 2))
	place(t, f, ask(0, 1, api.Buy, 100, 1, 1))
	place(t, f, ask(1, 1, api.Sell, 100, 1, 2))
	wantRun(t, f, 0, 1, "{120 2 false []}")
	wantBand(t, f, 0, band.Band{Ref: 100, Left: 3})
	wantRun(t, f, 1, 1, "{100 1 true [{1 1} {2 1}]}") // another item is not halted
	place(t, f, ask(2, 0, api.Sell, 101, 5, 3))
	wantRun(t, f, 0, 1, "{101 2 false []}") // within, and halted
	wantBand(t, f, 0, band.Band{Ref: 100, Left: 2})
	wantDrop(t, f, 0, api.Lot{ID: 1, Side: api.Buy, Price: 130, Qty: 2})
	wantRun(t, f, 0, 1, "{0 0 false []}") // nothing crosses
	wantBand(t, f, 0, band.Band{Ref: 100, Left: 1})
	place(t, f, ask(0, 0, api.Buy, 140, 6, 4))
	wantRun(t, f, 0, 1, "{120 6 false []}")
	wantBand(t, f, 0, band.Band{Ref: 120})
	wantHas(t, f, 0, purse.Has{Cash: 99900, Held: 840, Stock: stocks{100, 101, 100}})
	wantRun(t, f, 0, 1, "{120 6 true [{4 6} {3 5} {2 1}]}")
	wantHas(t, f, 0, purse.Has{Cash: 99180, Stock: stocks{106, 101, 100}})
	wantBook(t, f, 0, api.Lot{ID: 2, Owner: 1, Side: api.Sell, Price: 120, Qty: 1})
	wantRun(t, f, 0, 1, "{0 0 true []}")
	wantBand(t, f, 0, band.Band{Ref: 120})
}

func TestRunOfAWidthOfNothing(t *testing.T) {
	f := newFloor(t, band.Rule{Width: 0, Halt: 1}, 100, 100000, 100)
	place(t, f, ask(0, 0, api.Buy, 101, 1, 1))
	place(t, f, ask(1, 0, api.Sell, 101, 1, 2))
	wantRun(t, f, 0, 1, "{101 1 false []}")
	wantRun(t, f, 0, 1, "{101 1 false []}")
	wantBand(t, f, 0, band.Band{Ref: 101})
	wantRun(t, f, 0, 1, "{101 1 true [{1 1} {2 1}]}")
}

// A full book of which each lot is traded, at the greatest price, by who has the most.
func TestRunOfTheMost(t *testing.T) {
	f := newFloor(t, tenth, 1000, 1<<30, 100000)
	for id := 1; id <= 60; id++ {
		place(t, f, ask(id%2, 2, id%2, 1000, 1000, id))
	}
	r, err := f.Run(2, 1)
	if err != nil || r.Price != 1000 || r.Volume != 30000 || len(r.Fills) != 60 {
		t.Error(r, err)
	}
	wantBook(t, f, 2)
	wantHas(t, f, 0, purse.Has{Cash: 1<<30 - 30000000, Stock: stocks{100000, 100000, 130000}})
	wantHas(t, f, 1, purse.Has{Cash: 1<<30 + 30000000, Stock: stocks{100000, 100000, 70000}})
}

func TestFillsAreNewMemory(t *testing.T) {
	f, other := newFloor(t, tenth, 100, 5000, 20), newFloor(t, tenth, 100, 5000, 20)
	for _, x := range []*batch.Floor{f, other} {
		for id := 1; id <= 6; id++ {
			place(t, x, ask(id%3, 0, id%2, 100, id, id))
		}
	}
	for id := 11; id <= 13; id++ {
		r, err := f.Run(0, 1)
		same, _ := other.Run(0, 1)
		if fmt.Sprint(r) != fmt.Sprint(same) || err != nil || state(f) != state(other) {
			t.Fatalf("%v and %v, %v", r, same, err)
		}
		for i := range r.Fills {
			r.Fills[i] = api.Fill{ID: 77, Qty: 77}
		}
		place(t, f, ask(4, 0, api.Buy, 100, 1, id))
		place(t, other, ask(4, 0, api.Buy, 100, 1, id))
	}
}

// Somebody let a hold go through Purse, or laid a lot into Book for which nothing is held: what purse.Trade says is told, and nothing of the batch is done.
func TestRunOfWhatIsNotHeld(t *testing.T) {
	f := newFloor(t, tenth, 100, 5000, 20)
	place(t, f, ask(0, 0, api.Buy, 105, 2, 1))
	place(t, f, ask(1, 0, api.Buy, 104, 2, 2))
	place(t, f, ask(2, 0, api.Sell, 104, 4, 3))
	late := api.Lot{ID: 2, Owner: 1, Side: api.Buy, Price: 104, Qty: 2}
	if err := f.Purse().Free(0, late); err != nil {
		t.Fatal(err)
	}
	wantKept(t, f, api.ErrPoor, func() error {
		r, err := f.Run(0, 1)
		if r.Price != 0 || r.Volume != 0 || r.Open || r.Fills != nil {
			t.Errorf("with an error: %v", r)
		}
		return err
	})
	if err := f.Purse().Hold(0, late); err != nil {
		t.Fatal(err)
	}
	wantRun(t, f, 0, 1, "{104 4 true [{1 2} {2 2} {3 4}]}")

	if err := f.Book(1).Add(api.Lot{ID: 1, Owner: 3, Side: api.Sell, Price: 100, Qty: 1}); err != nil {
		t.Fatal(err)
	}
	place(t, f, ask(0, 1, api.Buy, 100, 1, 2))
	wantKept(t, f, api.ErrPoor, func() error {
		_, err := f.Run(1, 1)
		return err
	})
}
