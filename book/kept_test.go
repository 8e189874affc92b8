package book_test

import (
	"math/rand"
	"slices"
	"testing"

	"gavelhouse/api"
	"gavelhouse/book"
)

// ledger: a book by the words of the document, made without the program, and what came, was taken and went in all.
type ledger struct {
	lots              []api.Lot
	came, taken, went int
}

func (d *ledger) at(id int) int {
	for i, x := range d.lots {
		if x.ID == id {
			return i
		}
	}
	return -1
}

func (d *ledger) drop(at int) {
	var rest []api.Lot
	for i, x := range d.lots {
		if i != at {
			rest = append(rest, x)
		}
	}
	d.lots = rest
}

func (d *ledger) add(l api.Lot) error {
	if l.ID < 1 || l.ID > 1<<30 || l.Owner < 0 || l.Owner > 5 || l.Side < 0 || l.Side > 1 || l.Price < 1 || l.Price > 1000 || l.Qty < 1 || l.Qty > 1000 {
		return api.ErrBound
	}
	if d.at(l.ID) >= 0 {
		return api.ErrExist
	}
	if len(d.lots) == 60 {
		return api.ErrFull
	}
	d.came += l.Qty
	d.lots = append(d.lots, l)
	return nil
}

func (d *ledger) cancel(id int) (api.Lot, error) {
	i := d.at(id)
	if i < 0 {
		return api.Lot{}, api.ErrNone
	}
	x := d.lots[i]
	d.went += x.Qty
	d.drop(i)
	return x, nil
}

func (d *ledger) take(id, qty int) error {
	i := d.at(id)
	if i < 0 {
		return api.ErrNone
	}
	if qty < 1 || qty > d.lots[i].Qty {
		return api.ErrBound
	}
	d.taken += qty
	d.lots[i].Qty -= qty
	if d.lots[i].Qty == 0 {
		d.drop(i)
	}
	return nil
}

func (d *ledger) owner(n int) []int {
	var ids []int
	for _, x := range d.lots {
		if x.Owner == n {
			ids = append(ids, x.ID)
		}
	}
	return ids
}

// levels: price by price, from the side's best.
func (d *ledger) levels(side int) []book.Level {
	var all []book.Level
	for i := range 1000 {
		v := book.Level{Price: i + 1}
		if side == 0 {
			v.Price = 1000 - i
		}
		for _, x := range d.lots {
			if x.Side == side && x.Price == v.Price {
				v.Qty += x.Qty
				v.Many++
			}
		}
		if v.Many > 0 {
			all = append(all, v)
		}
	}
	return all
}

// drawn: a lot that is well most times, of so many IDs.
func drawn(r *rand.Rand, ids int) api.Lot {
	x := api.Lot{ID: r.Intn(ids) + 1, Owner: r.Intn(6), Side: r.Intn(2), Price: 100 + r.Intn(6), Qty: r.Intn(9) + 1}
	switch r.Intn(60) {
	case 0:
		x.ID = 0
	case 1:
		x.Owner = 6
	case 2:
		x.Side = 2
	case 3:
		x.Price = 1001
	case 4:
		x.Qty = 0
	}
	return x
}

// step: the same call to both; how many errors the two had of which kind.
func step(t *testing.T, r *rand.Rand, b *book.Book, d *ledger, ids int, errs map[error]int) {
	t.Helper()
	id, qty := r.Intn(ids+1), r.Intn(11)-1
	var got, want error
	switch r.Intn(7) {
	case 0:
		var x, y api.Lot
		x, got = b.Cancel(id)
		y, want = d.cancel(id)
		if x != y {
			t.Fatalf("Cancel(%d) = %v, want %v", id, x, y)
		}
	case 1, 2:
		got, want = b.Take(id, qty), d.take(id, qty)
	default:
		x := drawn(r, ids)
		got, want = b.Add(x), d.add(x)
	}
	if got != want {
		t.Fatalf("error %v, want %v, of %v", got, want, d.lots)
	}
	errs[got]++
}

// Quantity is kept: what came is what was taken, what went, and what rests.
func TestQuantityIsKept(t *testing.T) {
	r := rand.New(rand.NewSource(6))
	errs := map[error]int{}
	for range 40 {
		b, d, ids := book.New(), &ledger{}, 1+r.Intn(150)
		for range 300 {
			step(t, r, b, d, ids, errs)
			rests := 0
			for _, x := range b.Lots() {
				rests += x.Qty
			}
			if d.came != d.taken+d.went+rests {
				t.Fatalf("%d came, %d were taken, %d went, %d rest", d.came, d.taken, d.went, rests)
			}
			levels := 0
			for _, v := range slices.Concat(b.Levels(api.Buy), b.Levels(api.Sell)) {
				levels += v.Qty
			}
			if levels != rests {
				t.Fatalf("%d in levels, %d rest", levels, rests)
			}
			if !slices.Equal(b.Lots(), d.lots) {
				t.Fatalf("lots %v, want %v", b.Lots(), d.lots)
			}
			if r.Intn(20) == 0 {
				b = b.Copy()
			}
		}
		wantLots(t, b, d.lots)
		for n := -1; n <= 6; n++ {
			wantOwner(t, b, n, d.owner(n))
		}
		for side := -1; side <= 2; side++ {
			wantLevels(t, b, side, d.levels(side))
		}
	}
	for _, err := range []error{nil, api.ErrBound, api.ErrExist, api.ErrFull, api.ErrNone} {
		if errs[err] == 0 {
			t.Error("never answered:", err)
		}
	}
}
