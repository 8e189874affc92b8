package book_test

import (
	"math"
	"slices"
	"testing"

	"gavelhouse/api"
	"gavelhouse/book"
)

func wantOwner(t *testing.T, b *book.Book, n int, want []int) {
	t.Helper()
	if got := b.Owner(n); !slices.Equal(got, want) {
		t.Errorf("Owner(%d) of %v = %v, want %v", n, b.Lots(), got, want)
	}
}

func wantLevels(t *testing.T, b *book.Book, side int, want []book.Level) {
	t.Helper()
	if got := b.Levels(side); !slices.Equal(got, want) {
		t.Errorf("Levels(%d) of %v = %v, want %v", side, b.Lots(), got, want)
	}
}

// mixed: lots of two owners, some of the same price, of both sides.
func mixed() []api.Lot {
	return []api.Lot{
		{ID: 9, Owner: 2, Side: api.Buy, Price: 10, Qty: 5},
		{ID: 4, Owner: 0, Side: api.Sell, Price: 12, Qty: 1},
		{ID: 7, Owner: 2, Side: api.Sell, Price: 10, Qty: 1000},
		{ID: 2, Owner: 2, Side: api.Buy, Price: 1000, Qty: 2},
		{ID: 8, Owner: 0, Side: api.Buy, Price: 10, Qty: 6},
		{ID: 1, Owner: 5, Side: api.Sell, Price: 1, Qty: 3},
		{ID: 3, Owner: 2, Side: api.Buy, Price: 1, Qty: 8},
		{ID: 6, Owner: 5, Side: api.Sell, Price: 12, Qty: 4},
	}
}

func TestOwner(t *testing.T) {
	b := filled(t, mixed())
	wantOwner(t, b, 2, []int{9, 7, 2, 3})
	wantOwner(t, b, 0, []int{4, 8})
	wantOwner(t, b, 5, []int{1, 6})
	for _, n := range []int{math.MinInt, -1, 1, 3, 4, 6, 9, 1 << 32, math.MaxInt} {
		wantOwner(t, b, n, nil)
	}
	b.Cancel(7)
	b.Take(9, 5)
	b.Take(3, 1)
	wantOwner(t, b, 2, []int{2, 3})
	wantOwner(t, book.New(), 0, nil)
}

func TestLevels(t *testing.T) {
	b := filled(t, mixed())
	wantLevels(t, b, api.Buy, []book.Level{{Price: 1000, Qty: 2, Many: 1}, {Price: 10, Qty: 11, Many: 2}, {Price: 1, Qty: 8, Many: 1}})
	wantLevels(t, b, api.Sell, []book.Level{{Price: 1, Qty: 3, Many: 1}, {Price: 10, Qty: 1000, Many: 1}, {Price: 12, Qty: 5, Many: 2}})
	for _, side := range []int{math.MinInt, -1, 2, 3, 1 << 32, math.MaxInt} {
		wantLevels(t, b, side, nil)
	}
	b.Take(8, 4)
	b.Take(2, 2)
	b.Cancel(6)
	b.Cancel(1)
	wantLevels(t, b, api.Buy, []book.Level{{Price: 10, Qty: 7, Many: 2}, {Price: 1, Qty: 8, Many: 1}})
	wantLevels(t, b, api.Sell, []book.Level{{Price: 10, Qty: 1000, Many: 1}, {Price: 12, Qty: 1, Many: 1}})
	for side := range 3 {
		wantLevels(t, book.New(), side, nil)
	}
}

func TestLevelsOfAFullBook(t *testing.T) {
	var same, apart []api.Lot
	var buys, sells []book.Level
	for i := range most {
		same = append(same, api.Lot{ID: i + 1, Side: api.Sell, Price: 1000, Qty: 1000})
		apart = append(apart, api.Lot{ID: i + 1, Price: i*7%most + 1, Qty: i*7%most + 2})
		buys = append(buys, book.Level{Price: most - i, Qty: most - i + 1, Many: 1})
		sells = append(sells, book.Level{Price: i + 1, Qty: i + 2, Many: 1})
	}
	wantLevels(t, filled(t, same), api.Sell, []book.Level{{Price: 1000, Qty: 60000, Many: most}})
	wantLevels(t, filled(t, same), api.Buy, nil)
	wantLevels(t, filled(t, apart), api.Buy, buys)
	for i := range apart {
		apart[i].Side = api.Sell
	}
	wantLevels(t, filled(t, apart), api.Sell, sells)
}

func TestAnswersAreNewMemory(t *testing.T) {
	b := filled(t, mixed())
	for range 2 {
		wantLots(t, b, mixed())
		wantOwner(t, b, 0, []int{4, 8})
		wantLevels(t, b, api.Sell, []book.Level{{Price: 1, Qty: 3, Many: 1}, {Price: 10, Qty: 1000, Many: 1}, {Price: 12, Qty: 5, Many: 2}})
		l, ids, levels := b.Lots(), b.Owner(0), b.Levels(api.Sell)
		for i := range l {
			l[i] = top
		}
		ids[0], levels[0] = 77, book.Level{}
		_ = append(l, low)
		_ = append(l[:1], low)
	}
	// what was told stays as it was told
	l := b.Lots()
	b.Take(9, 1)
	b.Cancel(4)
	b.Add(top)
	if !slices.Equal(l, mixed()) {
		t.Errorf("lots that were told are now %v", l)
	}
	// nor do two lists of the same book share any
	x, y := b.Lots(), b.Lots()
	x = append(x, low)
	y = append(y, top)
	if x[len(x)-1] != low || y[len(y)-1] != top {
		t.Error("two lists share memory")
	}
}

// Neither a copy nor what it was made of sees what is done to the other one.
func TestCopy(t *testing.T) {
	for _, turned := range []bool{false, true} {
		a := filled(t, mixed())
		b := a.Copy()
		wantLots(t, b, mixed())
		if turned {
			a, b = b, a
		}
		a.Take(9, 2)
		a.Take(4, 1)
		a.Cancel(2)
		a.Add(low)
		wantLots(t, b, mixed())
		want := b.Lots()
		if err := b.Add(top); err != nil {
			t.Error(err)
		}
		wantLots(t, b, append(want, top))
		want = mixed()
		want[0].Qty = 3
		wantLots(t, a, []api.Lot{want[0], want[2], want[4], want[5], want[6], want[7]})
		wantRefused(t, a, low, api.ErrExist)
	}
}

func TestCopyOfEdges(t *testing.T) {
	e := book.New().Copy()
	wantLots(t, e, nil)
	if err := e.Add(low); err != nil {
		t.Error(err)
	}
	wantLots(t, e, []api.Lot{low})
	full := filled(t, lots(most)).Copy()
	wantLots(t, full, lots(most))
	wantRefused(t, full, low, api.ErrFull)
	// copies of a copy that grow apart
	a := filled(t, lots(5)).Copy()
	b, c := a.Copy(), a.Copy()
	for i, x := range []*book.Book{a, b, c} {
		if err := x.Add(api.Lot{ID: i + 1, Price: 5, Qty: 5}); err != nil {
			t.Error(err)
		}
	}
	for i, x := range []*book.Book{a, b, c} {
		wantLots(t, x, append(lots(5), api.Lot{ID: i + 1, Price: 5, Qty: 5}))
	}
}
