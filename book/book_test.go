package book_test

import (
	"math"
	"slices"
	"testing"

	"gavelhouse/api"
	"gavelhouse/book"
)

const most = 60 // lots of a book

// Lots with every field at its lowest, and at its highest.
var (
	low = api.Lot{ID: 1, Price: 1, Qty: 1}
	top = api.Lot{ID: 1 << 30, Owner: 5, Side: 1, Price: 1000, Qty: 1000}
)

// Numbers that no lot of these tests has as its ID.
var strange = []int{math.MinInt, -1 << 32, -1, 0, 77777, 1<<30 + 1, 1<<32 + 1, math.MaxInt}

// lots of all owners and both sides, whose IDs fall.
func lots(n int) []api.Lot {
	var l []api.Lot
	for i := range n {
		l = append(l, api.Lot{ID: 1000 - i, Owner: i % 6, Side: i % 2, Price: i*7%30 + 1, Qty: i%9 + 1})
	}
	return l
}

func filled(t *testing.T, l []api.Lot) *book.Book {
	t.Helper()
	b := book.New()
	for _, x := range l {
		if err := b.Add(x); err != nil {
			t.Fatalf("Add(%v) = %v", x, err)
		}
	}
	return b
}

func wantLots(t *testing.T, b *book.Book, want []api.Lot) {
	t.Helper()
	if got := b.Lots(); !slices.Equal(got, want) {
		t.Errorf("lots %v, want %v", got, want)
	}
	for _, x := range want {
		if got, is := b.Get(x.ID); got != x || !is {
			t.Errorf("Get(%d) = %v, %v, want %v", x.ID, got, is, x)
		}
	}
}

func wantNoLot(t *testing.T, b *book.Book, id int) {
	t.Helper()
	if got, is := b.Get(id); got != (api.Lot{}) || is {
		t.Errorf("Get(%d) = %v, %v", id, got, is)
	}
	was := b.Lots()
	if got, err := b.Cancel(id); got != (api.Lot{}) || err != api.ErrNone {
		t.Errorf("Cancel(%d) = %v, %v", id, got, err)
	}
	for _, qty := range []int{math.MinInt, -1, 0, 1, 1000, math.MaxInt} {
		if err := b.Take(id, qty); err != api.ErrNone {
			t.Errorf("Take(%d, %d) = %v", id, qty, err)
		}
	}
	wantLots(t, b, was)
}

// wantRefused: Add tells the bare error, and the book stays as it was.
func wantRefused(t *testing.T, b *book.Book, x api.Lot, want error) {
	t.Helper()
	was := b.Lots()
	if err := b.Add(x); err != want {
		t.Errorf("Add(%v) to %d lots = %v, want %v", x, len(was), err, want)
	}
	wantLots(t, b, was)
}

func TestNewIsEmpty(t *testing.T) {
	b := book.New()
	wantLots(t, b, nil)
	for _, id := range append(strange, 1, 1<<30) {
		wantNoLot(t, b, id)
	}
}

func TestNewBooksAreTheirOwn(t *testing.T) {
	a, b := filled(t, lots(3)), book.New()
	wantLots(t, b, nil)
	if err := b.Add(top); err != nil {
		t.Error(err)
	}
	wantLots(t, a, lots(3))
	wantLots(t, b, []api.Lot{top})
}

func TestAddKeepsTheOrder(t *testing.T) {
	for _, n := range []int{1, 2, 3, most - 1, most} {
		b := filled(t, lots(n))
		wantLots(t, b, lots(n))
		for _, id := range strange {
			wantNoLot(t, b, id)
		}
	}
	wantLots(t, filled(t, []api.Lot{top, low}), []api.Lot{top, low})
	wantLots(t, filled(t, []api.Lot{low, top}), []api.Lot{low, top})
}

// A lot comes whole: what crosses, or is of the same owner, side and price, stays beside the others.
func TestAddMatchesNothing(t *testing.T) {
	l := []api.Lot{{ID: 4, Owner: 1, Side: 0, Price: 10, Qty: 5}, {ID: 2, Owner: 1, Side: 1, Price: 9, Qty: 5}, {ID: 3, Owner: 1, Side: 0, Price: 10, Qty: 5}}
	wantLots(t, filled(t, l), l)
}

func TestAddBounds(t *testing.T) {
	field := []func(*api.Lot) *int{
		func(x *api.Lot) *int { return &x.ID },
		func(x *api.Lot) *int { return &x.Owner },
		func(x *api.Lot) *int { return &x.Side },
		func(x *api.Lot) *int { return &x.Price },
		func(x *api.Lot) *int { return &x.Qty },
	}
	lowest, highest := []int{1, 0, 0, 1, 1}, []int{1 << 30, 5, 1, 1000, 1000}
	for i, of := range field {
		for _, x := range []api.Lot{low, top} {
			for _, to := range []int{lowest[i], highest[i]} {
				*of(&x) = to
				wantLots(t, filled(t, []api.Lot{x}), []api.Lot{x})
			}
			for _, to := range []int{lowest[i] - 1, highest[i] + 1, lowest[i] + 1<<32, math.MinInt, math.MaxInt} {
				*of(&x) = to
				wantRefused(t, book.New(), x, api.ErrBound)
				wantRefused(t, filled(t, lots(3)), x, api.ErrBound)
			}
		}
	}
	wantRefused(t, book.New(), api.Lot{}, api.ErrBound)
}

// An ID is there beside all else: neither another owner nor another side makes it another lot.
func TestAddExist(t *testing.T) {
	b := filled(t, lots(5))
	for _, x := range lots(5) {
		wantRefused(t, b, x, api.ErrExist)
		wantRefused(t, b, api.Lot{ID: x.ID, Owner: 5 - x.Owner, Side: 1 - x.Side, Price: 999, Qty: 999}, api.ErrExist)
	}
}

func TestAddFull(t *testing.T) {
	b := filled(t, lots(most))
	wantRefused(t, b, low, api.ErrFull)
	wantRefused(t, b, top, api.ErrFull)
	for range 2 { // a place that is free again is one, not two
		l := b.Lots()
		if _, err := b.Cancel(l[17].ID); err != nil {
			t.Error(err)
		}
		if err := b.Add(l[17]); err != nil {
			t.Error(err)
		}
		wantRefused(t, b, low, api.ErrFull)
		wantLots(t, b, append(slices.Delete(slices.Clone(l), 17, 18), l[17]))
	}
	last := b.Lots()[most-1]
	if err := b.Take(last.ID, last.Qty); err != nil {
		t.Error(err)
	}
	if err := b.Add(top); err != nil {
		t.Error(err)
	}
	wantRefused(t, b, low, api.ErrFull)
}

// Both sides, and all owners, fill one book.
func TestFullOfOneSort(t *testing.T) {
	for _, side := range []int{api.Buy, api.Sell} {
		l := lots(most)
		for i := range l {
			l[i].Side, l[i].Owner = side, 3
		}
		b := filled(t, l)
		wantRefused(t, b, api.Lot{ID: 1, Side: 1 - side, Price: 5, Qty: 5}, api.ErrFull)
		wantLots(t, b, l)
	}
}

func TestOrderOfErrors(t *testing.T) {
	b := filled(t, lots(most))
	there := b.Lots()[0]
	wantRefused(t, b, there, api.ErrExist)
	there.Price = 0
	wantRefused(t, b, there, api.ErrBound)
	wantRefused(t, b, api.Lot{ID: 5, Price: 5}, api.ErrBound)
	few := filled(t, lots(1))
	wantRefused(t, few, there, api.ErrBound)
}

func TestCancel(t *testing.T) {
	for _, n := range []int{1, 2, 5, most} {
		for at := range n {
			b, l := filled(t, lots(n)), lots(n)
			x := l[at]
			if got, err := b.Cancel(x.ID); got != x || err != nil {
				t.Errorf("Cancel(%d) = %v, %v, want %v", x.ID, got, err, x)
			}
			wantLots(t, b, slices.Delete(l, at, at+1))
			wantNoLot(t, b, x.ID)
		}
	}
}

// Who comes again stands behind all others.
func TestComesAgain(t *testing.T) {
	l := lots(4)
	b := filled(t, l)
	b.Cancel(l[0].ID)
	b.Take(l[2].ID, l[2].Qty)
	again := []api.Lot{l[1], l[3], l[2], l[0]}
	again[2].Price, again[3].Side = 500, 1
	for _, x := range again[2:] {
		if err := b.Add(x); err != nil {
			t.Error(err)
		}
	}
	wantLots(t, b, again)
}

func TestTake(t *testing.T) {
	for at := range 3 {
		l := lots(3)
		l[at].Qty = 1000
		b := filled(t, l)
		for _, qty := range []int{1, 998, 1} {
			left := l[at].Qty
			for _, wrong := range []int{0, -1, left + 1, -left, qty + 1<<32, math.MinInt, math.MaxInt} {
				if err := b.Take(l[at].ID, wrong); err != api.ErrBound {
					t.Errorf("Take(%d, %d) of %d = %v", l[at].ID, wrong, left, err)
				}
			}
			wantLots(t, b, l)
			if err := b.Take(l[at].ID, qty); err != nil {
				t.Errorf("Take(%d, %d) of %d = %v", l[at].ID, qty, left, err)
			}
			l[at].Qty -= qty
			if l[at].Qty > 0 {
				wantLots(t, b, l)
			}
		}
		gone := l[at].ID
		wantLots(t, b, slices.Delete(l, at, at+1))
		wantNoLot(t, b, gone)
	}
}

func TestTakeAllAtOnce(t *testing.T) {
	b := filled(t, []api.Lot{low, top})
	if err := b.Take(top.ID, 1000); err != nil {
		t.Error(err)
	}
	wantLots(t, b, []api.Lot{low})
	if err := b.Take(low.ID, 1); err != nil {
		t.Error(err)
	}
	wantLots(t, b, nil)
	wantNoLot(t, b, low.ID)
	wantNoLot(t, b, top.ID)
}

// What was taken is not what goes: a lot that is cancelled has what is left of it.
func TestCancelOfTheRest(t *testing.T) {
	b := filled(t, []api.Lot{top})
	if err := b.Take(top.ID, 400); err != nil {
		t.Error(err)
	}
	want := top
	want.Qty = 600
	if got, err := b.Cancel(top.ID); got != want || err != nil {
		t.Errorf("Cancel = %v, %v, want %v", got, err, want)
	}
}
