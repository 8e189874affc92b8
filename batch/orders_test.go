package batch_test

import (
	"fmt"
	"math"
	"testing"

	"gavelhouse/api"
	"gavelhouse/batch"
	"gavelhouse/purse"
)

func ask(client, item, side, price, qty, id int) api.Ask {
	return api.Ask{Kind: api.Place, Client: client, Item: item, Side: side, Price: price, Qty: qty, ID: id}
}

func cancel(client, item, id int) api.Ask {
	return api.Ask{Kind: api.Cancel, Client: client, Item: item, ID: id}
}

func place(t *testing.T, f *batch.Floor, a api.Ask) {
	t.Helper()
	if err := f.Place(a); err != nil {
		t.Fatalf("Place(%+v) = %v", a, err)
	}
}

func wantNoPlace(t *testing.T, f *batch.Floor, a api.Ask, want error) {
	t.Helper()
	wantKept(t, f, want, func() error {
		err := f.Place(a)
		if err != want {
			t.Errorf("Place(%+v) = %v, want %v", a, err, want)
		}
		return err
	})
}

func wantCancel(t *testing.T, f *batch.Floor, a api.Ask, want api.Lot) {
	t.Helper()
	if got, err := f.Cancel(a); got != want || err != nil {
		t.Errorf("Cancel(%+v) = %v, %v, want %v", a, got, err, want)
	}
}

func wantNoCancel(t *testing.T, f *batch.Floor, a api.Ask, want error) {
	t.Helper()
	wantKept(t, f, want, func() error {
		l, err := f.Cancel(a)
		if err != want || l != (api.Lot{}) {
			t.Errorf("Cancel(%+v) = %v, %v, want %v", a, l, err, want)
		}
		return err
	})
}

func wantDrop(t *testing.T, f *batch.Floor, client int, want ...api.Lot) {
	t.Helper()
	if got := f.Drop(client); fmt.Sprint(got) != fmt.Sprint(want) {
		t.Errorf("Drop(%d) = %v, want %v", client, got, want)
	}
}

func TestPlaceRestsAndHolds(t *testing.T) {
	f := newFloor(t, tenth, 100, 1000, 10)
	place(t, f, ask(3, 2, api.Buy, 7, 9, 50))
	place(t, f, ask(3, 2, api.Sell, 8, 4, 20))
	place(t, f, ask(3, 0, api.Buy, 5, 2, 50)) // of another item: an ID is an item's
	place(t, f, ask(4, 2, api.Sell, 8, 10, 1))
	wantBook(t, f, 0, api.Lot{ID: 50, Owner: 3, Side: api.Buy, Price: 5, Qty: 2})
	wantBook(t, f, 1)
	wantBook(t, f, 2,
		api.Lot{ID: 50, Owner: 3, Side: api.Buy, Price: 7, Qty: 9},
		api.Lot{ID: 20, Owner: 3, Side: api.Sell, Price: 8, Qty: 4},
		api.Lot{ID: 1, Owner: 4, Side: api.Sell, Price: 8, Qty: 10})
	wantHas(t, f, 3, purse.Has{Cash: 1000, Held: 73, Stock: stocks{10, 10, 10}, Kept: stocks{0, 0, 4}})
	wantHas(t, f, 4, purse.Has{Cash: 1000, Stock: stocks{10, 10, 10}, Kept: stocks{0, 0, 10}})
	wantHas(t, f, 0, purse.Has{Cash: 1000, Stock: stocks{10, 10, 10}})
}

// A request at each end of its bounds; its Seq is nothing to a floor.
func TestPlaceAtItsBounds(t *testing.T) {
	f := newFloor(t, tenth, 100, 1<<30, 100000)
	place(t, f, api.Ask{Kind: api.Place, Client: 5, Seq: 1 << 30, Item: 2, Side: api.Sell, Price: 1000, Qty: 1000, ID: 1 << 30})
	place(t, f, api.Ask{Kind: api.Place, Price: 1, Qty: 1, ID: 1})
	place(t, f, api.Ask{Kind: api.Place, Client: 5, Seq: 7, Item: 2, Side: api.Buy, Price: 1000, Qty: 1000, ID: 1})
	wantBook(t, f, 0, api.Lot{ID: 1, Owner: 0, Side: api.Buy, Price: 1, Qty: 1})
	wantBook(t, f, 2, api.Lot{ID: 1 << 30, Owner: 5, Side: api.Sell, Price: 1000, Qty: 1000}, api.Lot{ID: 1, Owner: 5, Side: api.Buy, Price: 1000, Qty: 1000})
	wantHas(t, f, 5, purse.Has{Cash: 1 << 30, Held: 1000000, Stock: stocks{100000, 100000, 100000}, Kept: stocks{0, 0, 1000}})
	wantCancel(t, f, cancel(5, 2, 1<<30), api.Lot{ID: 1 << 30, Owner: 5, Side: api.Sell, Price: 1000, Qty: 1000})
}

// changed: one field of a request set to a number.
func changed(a api.Ask, field string, x int) api.Ask {
	switch field {
	case "Client":
		a.Client = x
	case "Seq":
		a.Seq = x
	case "Item":
		a.Item = x
	case "Side":
		a.Side = x
	case "Price":
		a.Price = x
	case "Qty":
		a.Qty = x
	case "ID":
		a.ID = x
	}
	return a
}

func TestOrderBounds(t *testing.T) {
	f := newFloor(t, tenth, 100, 1000, 10)
	place(t, f, ask(0, 0, api.Buy, 1, 1, 1))
	for _, c := range []struct {
		field     string
		low, high int
	}{{"Client", 0, 5}, {"Seq", 0, 1 << 30}, {"Item", 0, 2}, {"Side", 0, 1}, {"Price", 1, 1000}, {"Qty", 1, 1000}, {"ID", 0, 1 << 30}} {
		for _, x := range []int{c.low - 1, c.high + 1, c.low + 1<<32, math.MinInt, math.MaxInt} {
			wantNoPlace(t, f, changed(ask(0, 0, api.Buy, 1, 1, 2), c.field, x), api.ErrBound)
			if c.field == "Side" || c.field == "Price" || c.field == "Qty" {
				wantNoCancel(t, f, changed(cancel(0, 0, 1), c.field, x|1), api.ErrShape)
			} else {
				wantNoCancel(t, f, changed(cancel(0, 0, 1), c.field, x), api.ErrBound)
			}
		}
	}
	wantNoPlace(t, f, ask(0, 0, api.Buy, 1, 1, 0), api.ErrBound)
	wantNoCancel(t, f, cancel(0, 0, 0), api.ErrNone) // a request may have an ID of 0; no lot has
}

func TestOrderKinds(t *testing.T) {
	f := newFloor(t, tenth, 100, 1000, 10)
	place(t, f, ask(0, 0, api.Buy, 1, 1, 1))
	for kind := range 256 {
		a := api.Ask{Kind: byte(kind)}
		if a.Kind != api.Place && a.Kind != api.Cancel {
			wantNoPlace(t, f, a, api.ErrKind)
			wantNoCancel(t, f, a, api.ErrKind)
		}
	}
	wantNoPlace(t, f, cancel(0, 0, 1), api.ErrKind)
	wantNoPlace(t, f, cancel(0, 0, 2), api.ErrKind)
	wantNoCancel(t, f, ask(0, 0, api.Buy, 1, 1, 1), api.ErrKind)
	wantNoCancel(t, f, ask(0, 0, api.Buy, 1, 1, 2), api.ErrKind)
	// What wire.Check says of a request comes ahead of whether its kind is asked for here.
	wantNoPlace(t, f, cancel(0, 3, 1), api.ErrBound)
	wantNoPlace(t, f, changed(cancel(0, 0, 1), "Qty", 1), api.ErrShape)
	wantNoPlace(t, f, api.Ask{Kind: api.Login, Client: 6}, api.ErrBound)
	wantNoCancel(t, f, ask(0, 0, api.Buy, 0, 1, 1), api.ErrBound)
	wantNoCancel(t, f, api.Ask{Kind: api.Logout, Item: 1}, api.ErrShape)
}

func TestPlacePoor(t *testing.T) {
	f := newFloor(t, tenth, 100, 100, 10)
	place(t, f, ask(1, 0, api.Buy, 30, 3, 1))
	wantNoPlace(t, f, ask(1, 0, api.Buy, 11, 1, 2), api.ErrPoor)
	wantNoPlace(t, f, ask(1, 1, api.Buy, 1, 11, 2), api.ErrPoor) // cash is one, for all items
	place(t, f, ask(1, 2, api.Buy, 10, 1, 2))
	wantNoPlace(t, f, ask(1, 2, api.Buy, 1, 1, 3), api.ErrPoor)
	place(t, f, ask(2, 2, api.Buy, 1, 1, 3)) // another client's is its own

	place(t, f, ask(1, 0, api.Sell, 1000, 6, 4))
	wantNoPlace(t, f, ask(1, 0, api.Sell, 1, 5, 5), api.ErrPoor)
	place(t, f, ask(1, 0, api.Sell, 1, 4, 5))
	wantNoPlace(t, f, ask(1, 0, api.Sell, 1, 1, 6), api.ErrPoor)
	place(t, f, ask(1, 1, api.Sell, 1, 10, 6)) // stock is each item's
	wantHas(t, f, 1, purse.Has{Cash: 100, Held: 100, Stock: stocks{10, 10, 10}, Kept: stocks{10, 10, 0}})

	f = newFloor(t, tenth, 100, 0, 0)
	wantNoPlace(t, f, ask(0, 0, api.Buy, 1, 1, 1), api.ErrPoor)
	wantNoPlace(t, f, ask(0, 0, api.Sell, 1, 1, 1), api.ErrPoor)
}

// An ID that was refused is as free as ahead of it, and what comes next rests where it would have.
func TestPlaceAgainBehindPoor(t *testing.T) {
	f := newFloor(t, tenth, 100, 100, 10)
	place(t, f, ask(1, 0, api.Buy, 10, 1, 1))
	wantNoPlace(t, f, ask(1, 0, api.Buy, 91, 1, 2), api.ErrPoor)
	place(t, f, ask(1, 0, api.Buy, 10, 1, 3))
	place(t, f, ask(1, 0, api.Buy, 80, 1, 2))
	wantBook(t, f, 0, api.Lot{ID: 1, Owner: 1, Price: 10, Qty: 1}, api.Lot{ID: 3, Owner: 1, Price: 10, Qty: 1}, api.Lot{ID: 2, Owner: 1, Price: 80, Qty: 1})
}

// Each request has its error and all that are named behind it.
func TestPlaceOrderOfErrors(t *testing.T) {
	f := newFloor(t, tenth, 100, 100, 0)
	for id := 1; id <= 59; id++ {
		place(t, f, ask(0, 0, api.Buy, 1, 1, id))
	}
	wantNoPlace(t, f, ask(0, 0, api.Buy, 1000, 1000, 7), api.ErrExist)
	wantNoPlace(t, f, ask(5, 0, api.Buy, 1000, 1000, 7), api.ErrExist) // whoever has it
	wantNoPlace(t, f, ask(0, 0, api.Buy, 1000, 1000, 60), api.ErrPoor)
	place(t, f, ask(0, 0, api.Buy, 1, 1, 60))
	wantNoPlace(t, f, ask(0, 0, api.Buy, 1000, 1000, 7), api.ErrExist)
	wantNoPlace(t, f, ask(0, 0, api.Buy, 1000, 1000, 61), api.ErrFull)
	wantNoPlace(t, f, ask(0, 0, api.Buy, 1, 1, 61), api.ErrFull)
	wantNoPlace(t, f, ask(0, 0, api.Buy, 1000, 1000, 0), api.ErrBound)
	place(t, f, ask(0, 1, api.Buy, 1, 1, 61)) // a book is an item's
	wantCancel(t, f, cancel(0, 0, 30), api.Lot{ID: 30, Price: 1, Qty: 1})
	place(t, f, ask(0, 0, api.Buy, 1, 1, 30))
}

func TestCancelFrees(t *testing.T) {
	f := newFloor(t, tenth, 100, 100, 10)
	place(t, f, ask(1, 0, api.Buy, 10, 4, 1))
	place(t, f, ask(1, 0, api.Buy, 10, 6, 2))
	place(t, f, ask(1, 1, api.Sell, 10, 10, 1))
	place(t, f, ask(2, 0, api.Sell, 90, 7, 3))
	wantCancel(t, f, cancel(1, 0, 1), api.Lot{ID: 1, Owner: 1, Side: api.Buy, Price: 10, Qty: 4})
	wantHas(t, f, 1, purse.Has{Cash: 100, Held: 60, Stock: stocks{10, 10, 10}, Kept: stocks{0, 10, 0}})
	wantBook(t, f, 0, api.Lot{ID: 2, Owner: 1, Side: api.Buy, Price: 10, Qty: 6}, api.Lot{ID: 3, Owner: 2, Side: api.Sell, Price: 90, Qty: 7})
	wantNoCancel(t, f, cancel(1, 0, 1), api.ErrNone)
	wantCancel(t, f, cancel(1, 1, 1), api.Lot{ID: 1, Owner: 1, Side: api.Sell, Price: 10, Qty: 10})
	wantHas(t, f, 1, purse.Has{Cash: 100, Held: 60, Stock: stocks{10, 10, 10}})
	place(t, f, ask(1, 0, api.Buy, 40, 1, 1)) // both the cash and the ID are free
	wantNoPlace(t, f, ask(1, 0, api.Buy, 1, 1, 9), api.ErrPoor)
}

func TestCancelNone(t *testing.T) {
	f := newFloor(t, tenth, 100, 100, 10)
	wantNoCancel(t, f, cancel(0, 0, 1), api.ErrNone)
	place(t, f, ask(2, 1, api.Buy, 10, 4, 7))
	place(t, f, ask(3, 2, api.Sell, 10, 4, 7))
	for client := range 6 {
		for item := range 3 {
			for _, id := range []int{0, 1, 6, 7, 8, 1 << 30} {
				is := id == 7 && (client == 2 && item == 1 || client == 3 && item == 2)
				if !is {
					wantNoCancel(t, f, cancel(client, item, id), api.ErrNone)
				}
			}
		}
	}
	wantCancel(t, f, api.Ask{Kind: api.Cancel, Seq: 9, Client: 3, Item: 2, ID: 7}, api.Lot{ID: 7, Owner: 3, Side: api.Sell, Price: 10, Qty: 4})
}

// Of a lot that was filled in part, the rest goes, and what was held for the rest is free.
func TestCancelOfTheRest(t *testing.T) {
	f := newFloor(t, tenth, 100, 1000, 10)
	place(t, f, ask(0, 0, api.Buy, 105, 5, 1))
	place(t, f, ask(1, 0, api.Sell, 95, 2, 2))
	wantRun(t, f, 0, 3, "{100 2 true [{1 2} {2 2}]}")
	wantHas(t, f, 0, purse.Has{Cash: 800, Held: 315, Stock: stocks{12, 10, 10}})
	wantCancel(t, f, cancel(0, 0, 1), api.Lot{ID: 1, Owner: 0, Side: api.Buy, Price: 105, Qty: 3})
	wantHas(t, f, 0, purse.Has{Cash: 800, Stock: stocks{12, 10, 10}})
	wantNoCancel(t, f, cancel(1, 0, 2), api.ErrNone) // filled whole: it is there no more
}

func TestDrop(t *testing.T) {
	f := newFloor(t, tenth, 100, 1000, 10)
	place(t, f, ask(4, 2, api.Buy, 3, 3, 1))
	place(t, f, ask(4, 0, api.Sell, 900, 2, 9))
	place(t, f, ask(5, 0, api.Sell, 900, 2, 8))
	place(t, f, ask(4, 0, api.Buy, 10, 7, 3))
	place(t, f, ask(4, 1, api.Sell, 5, 5, 9))
	place(t, f, ask(4, 0, api.Buy, 20, 1, 5))
	wantDrop(t, f, 4,
		api.Lot{ID: 9, Owner: 4, Side: api.Sell, Price: 900, Qty: 2},
		api.Lot{ID: 3, Owner: 4, Side: api.Buy, Price: 10, Qty: 7},
		api.Lot{ID: 5, Owner: 4, Side: api.Buy, Price: 20, Qty: 1},
		api.Lot{ID: 9, Owner: 4, Side: api.Sell, Price: 5, Qty: 5},
		api.Lot{ID: 1, Owner: 4, Side: api.Buy, Price: 3, Qty: 3})
	wantHas(t, f, 4, purse.Has{Cash: 1000, Stock: stocks{10, 10, 10}})
	wantHas(t, f, 5, purse.Has{Cash: 1000, Stock: stocks{10, 10, 10}, Kept: stocks{2, 0, 0}})
	wantBook(t, f, 0, api.Lot{ID: 8, Owner: 5, Side: api.Sell, Price: 900, Qty: 2})
	wantBook(t, f, 1)
	wantBook(t, f, 2)
	wantDrop(t, f, 4)
	place(t, f, ask(4, 0, api.Buy, 1000, 1, 9))
}

func TestDropOfNobody(t *testing.T) {
	f := newFloor(t, tenth, 100, 1000, 10)
	for client := range 6 {
		place(t, f, ask(client, client%3, api.Buy, 1, 1, client+1))
	}
	for _, client := range strange {
		wantKept(t, f, nil, func() error {
			wantDrop(t, f, client)
			return nil
		})
	}
}

// Whoever writes into an answer changes no lot that rests.
func TestDropIsNewMemory(t *testing.T) {
	f := newFloor(t, tenth, 100, 1000, 10)
	for id := 1; id <= 4; id++ {
		place(t, f, ask(id%2, 0, api.Buy, id, 1, id))
	}
	gone := f.Drop(1)
	for i := range gone {
		gone[i] = api.Lot{ID: 77}
	}
	gone = append(gone, api.Lot{ID: 78})
	wantBook(t, f, 0, api.Lot{ID: 2, Price: 2, Qty: 1}, api.Lot{ID: 4, Price: 4, Qty: 1})
	wantDrop(t, f, 0, api.Lot{ID: 2, Price: 2, Qty: 1}, api.Lot{ID: 4, Price: 4, Qty: 1})
	if gone[0].ID != 77 || gone[2].ID != 78 {
		t.Error(gone)
	}
}

// A hold that somebody let go through Purse is not freed once more; the lot goes all the same.
func TestCancelOfWhatIsNotHeld(t *testing.T) {
	f := newFloor(t, tenth, 100, 1000, 10)
	x, y := api.Lot{ID: 1, Side: api.Buy, Price: 10, Qty: 5}, api.Lot{ID: 2, Side: api.Sell, Price: 900, Qty: 5}
	place(t, f, ask(0, 0, api.Buy, 10, 5, 1))
	place(t, f, ask(0, 0, api.Sell, 900, 5, 2))
	if f.Purse().Free(0, x) != nil || f.Purse().Free(0, y) != nil {
		t.Fatal("not held")
	}
	wantCancel(t, f, cancel(0, 0, 1), x)
	wantDrop(t, f, 0, y)
	wantHas(t, f, 0, purse.Has{Cash: 1000, Stock: stocks{10, 10, 10}})
	wantBook(t, f, 0)
}
