package curve_test

import (
	"math"
	"testing"

	"gavelhouse/api"
	"gavelhouse/curve"
)

const most = 120 // lots of a list

// Lots with every field at its lowest, and at its highest.
var (
	low = api.Lot{ID: 1, Price: 1, Qty: 1}
	top = api.Lot{ID: 1 << 30, Owner: 5, Side: 1, Price: 1000, Qty: 1000}
)

// lots that are well, buys and sells in turn, of ever greater prices.
func lots(n int) []api.Lot {
	var l []api.Lot
	for i := range n {
		l = append(l, api.Lot{ID: i + 1, Owner: i % 6, Side: i % 2, Price: i%1000 + 1, Qty: i%7 + 1})
	}
	return l
}

// field of a lot, by its name.
func field(x *api.Lot, name string) *int {
	switch name {
	case "ID":
		return &x.ID
	case "Owner":
		return &x.Owner
	case "Side":
		return &x.Side
	case "Price":
		return &x.Price
	}
	return &x.Qty
}

func with(x api.Lot, name string, to int) api.Lot {
	*field(&x, name) = to
	return x
}

func wantWell(t *testing.T, l []api.Lot) {
	t.Helper()
	if err := curve.Check(l); err != nil {
		t.Errorf("Check of %d lots %v = %v", len(l), l, err)
	}
}

// wantFault: Check tells this error at this place, and nothing else is told of the lots.
func wantFault(t *testing.T, l []api.Lot, at int, want error) {
	t.Helper()
	f, ok := curve.Check(l).(*api.Fault)
	if !ok || f.At != at || f.Err != want {
		t.Errorf("Check of %d lots %+v = %+v, want %v at %d", len(l), l, curve.Check(l), want, at)
	}
	wantNothing(t, l)
}

func wantNothing(t *testing.T, l []api.Lot) {
	t.Helper()
	for _, p := range []int{math.MinInt, -1, 0, 1, 2, 500, 999, 1000, 1001, math.MaxInt} {
		if got := (totals{curve.Demand(l, p), curve.Supply(l, p), curve.Volume(l, p), curve.Surplus(l, p)}); got != (totals{}) {
			t.Errorf("of lots that are not well at %d: %+v", p, got)
		}
	}
	if got := curve.Prices(l); len(got) != 0 {
		t.Errorf("prices of lots that are not well: %v", got)
	}
	if curve.Cross(l) {
		t.Error("lots that are not well cross")
	}
	for _, side := range []int{-1, api.Buy, api.Sell, 2} {
		if got := curve.Best(l, side); got != 0 {
			t.Errorf("best of lots that are not well, side %d: %d", side, got)
		}
	}
}

func TestCheckTakes(t *testing.T) {
	wantWell(t, nil)
	wantWell(t, []api.Lot{})
	wantWell(t, []api.Lot{low})
	wantWell(t, []api.Lot{top})
	wantWell(t, []api.Lot{low, top})
	for _, n := range []int{1, 2, 60, 61, most - 1, most} {
		wantWell(t, lots(n))
	}
}

func TestCheckBounds(t *testing.T) {
	for _, c := range []struct {
		name      string
		low, high int
	}{
		{"ID", 1, 1 << 30},
		{"Owner", 0, 5},
		{"Side", 0, 1},
		{"Price", 1, 1000},
		{"Qty", 1, 1000},
	} {
		for _, x := range []api.Lot{low, top} {
			for _, to := range []int{c.low, c.high} {
				wantWell(t, []api.Lot{with(x, c.name, to)})
			}
			for _, to := range []int{c.low - 1, c.high + 1, c.low + 1<<32, math.MinInt, math.MaxInt} {
				wantFault(t, []api.Lot{with(x, c.name, to)}, 0, api.ErrBound)
			}
		}
	}
}

func TestCheckPlace(t *testing.T) {
	for _, at := range []int{0, 1, 59, 60, most - 1} {
		for _, name := range []string{"ID", "Owner", "Side", "Price", "Qty"} {
			l := lots(most)
			l[at] = with(l[at], name, -1)
			wantFault(t, l, at, api.ErrBound)
		}
	}
	for _, at := range []int{1, 2, 60, most - 1} {
		for _, ahead := range []int{0, at / 2, at - 1} {
			l := lots(most)
			l[at].ID = l[ahead].ID
			wantFault(t, l, at, api.ErrExist)
		}
	}
}

// An ID is asked for beside all else: neither another owner nor another side makes it another lot.
func TestCheckExist(t *testing.T) {
	for _, x := range []api.Lot{low, with(low, "Owner", 5), with(low, "Side", 1), with(low, "Price", 1000), with(low, "Qty", 1000)} {
		wantFault(t, []api.Lot{low, x}, 1, api.ErrExist)
		wantFault(t, []api.Lot{top, low, with(top, "ID", 7), x}, 3, api.ErrExist)
	}
	wantFault(t, []api.Lot{top, top}, 1, api.ErrExist)
	wantFault(t, []api.Lot{low, low, low}, 1, api.ErrExist)
	wantFault(t, []api.Lot{low, top, top, low}, 2, api.ErrExist)
	wantWell(t, []api.Lot{low, with(low, "ID", 2)})
}

// The first lot that is not well is told; of one lot its bounds ahead of its ID.
func TestCheckOrder(t *testing.T) {
	bad := with(top, "Qty", 0)
	wantFault(t, []api.Lot{low, low, bad}, 1, api.ErrExist)
	wantFault(t, []api.Lot{low, bad, low}, 1, api.ErrBound)
	wantFault(t, []api.Lot{low, bad, bad}, 1, api.ErrBound)
	wantFault(t, []api.Lot{low, with(low, "Price", 0)}, 1, api.ErrBound)
	wantFault(t, []api.Lot{{}, {}}, 0, api.ErrBound)
}

func TestCheckFull(t *testing.T) {
	wantFull := func(l []api.Lot) {
		t.Helper()
		if err := curve.Check(l); err != api.ErrFull {
			t.Errorf("Check of %d lots = %v", len(l), err)
		}
		wantNothing(t, l)
	}
	for _, n := range []int{most + 1, most + 2, 1000, 100000} {
		wantFull(lots(n))
		wantFull(make([]api.Lot, n))
	}
	l := lots(most + 1)
	l[0].ID, l[1].ID = 0, l[2].ID
	wantFull(l)
}
