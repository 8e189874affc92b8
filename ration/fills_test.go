package ration_test

import (
	"math"
	"math/rand"
	"slices"
	"testing"

	"gavelhouse/api"
	"gavelhouse/ration"
)

func buy(id, price, qty int) api.Lot {
	return api.Lot{ID: id, Side: api.Buy, Price: price, Qty: qty}
}

func sell(id, price, qty int) api.Lot {
	return api.Lot{ID: id, Side: api.Sell, Price: price, Qty: qty}
}

func wantFills(t *testing.T, l []api.Lot, price, volume int, seed uint32, want []api.Fill) {
	t.Helper()
	got, err := ration.Fills(l, price, volume, seed)
	if !slices.Equal(got, want) || err != nil {
		t.Errorf("Fills(%v, %d, %d, %d) = %v, %v, want %v", l, price, volume, seed, got, err, want)
	}
}

func TestNothingIsShared(t *testing.T) {
	for _, l := range [][]api.Lot{nil, {}, {buy(1, 10, 5)}, {sell(1, 10, 5)}, {buy(1, 9, 5), sell(2, 10, 5)}, {buy(1, 10, 5), sell(2, 9, 5)}} {
		for _, price := range []int{1, 9, 10, 1000} {
			for _, seed := range seeds {
				wantFills(t, l, price, 0, seed, nil)
			}
		}
	}
}

// Levels that fit are filled better prices first, and each in the order of the list: no lots are drawn there.
func TestWholeLevels(t *testing.T) {
	l := []api.Lot{
		buy(8, 10, 1), sell(7, 10, 2), buy(6, 1000, 3), sell(5, 1, 4), buy(4, 11, 5), sell(3, 9, 6), buy(2, 10, 7), sell(1, 10, 4),
		buy(20, 9, 50), sell(21, 11, 50), buy(22, 1, 50), sell(23, 1000, 50),
	}
	buys := []api.Fill{{ID: 6, Qty: 3}, {ID: 4, Qty: 5}, {ID: 8, Qty: 1}, {ID: 2, Qty: 7}}
	sells := []api.Fill{{ID: 5, Qty: 4}, {ID: 3, Qty: 6}, {ID: 7, Qty: 2}, {ID: 1, Qty: 4}}
	for _, seed := range seeds {
		wantFills(t, l, 10, 16, seed, slices.Concat(buys, sells))
	}
	// 8 ends at a level's end of the buys, 10 at one of the sells
	for _, seed := range seeds {
		wantFills(t, l, 10, 8, seed, slices.Concat(buys[:2], sells[:1], []api.Fill{{ID: 3, Qty: 4}}))
		wantFills(t, l, 10, 3, seed, slices.Concat(buys[:1], []api.Fill{{ID: 5, Qty: 3}}))
		x := order(2, seed)
		two := []api.Fill{{ID: []int{8, 2}[x[0]], Qty: []int{1, 2}[x[0]]}}
		if x[0] == 0 {
			two = append(two, api.Fill{ID: 2, Qty: 1})
		}
		wantFills(t, l, 10, 10, seed, slices.Concat(buys[:2], two, sells[:2]))
	}
}

// Lots are drawn at the margin: by the seed among buys, by the next one among sells.
func TestMargin(t *testing.T) {
	buys := []api.Lot{buy(1, 10, 4), buy(2, 10, 4), buy(3, 10, 4), sell(9, 10, 7)}
	sells := []api.Lot{sell(1, 10, 4), sell(2, 10, 4), sell(3, 10, 4), buy(9, 10, 7)}
	firsts := [3]int{}
	for _, seed := range append(seeds, numbers(99, 50)...) {
		x, y := order(3, seed), order(3, seed+1)
		firsts[x[0]]++
		wantFills(t, buys, 10, 7, seed, []api.Fill{{ID: x[0] + 1, Qty: 4}, {ID: x[1] + 1, Qty: 3}, {ID: 9, Qty: 7}})
		wantFills(t, sells, 10, 7, seed, []api.Fill{{ID: 9, Qty: 7}, {ID: y[0] + 1, Qty: 4}, {ID: y[1] + 1, Qty: 3}})
		// a lot that is whole ends it: nobody gets 0
		wantFills(t, buys, 10, 4, seed, []api.Fill{{ID: x[0] + 1, Qty: 4}, {ID: 9, Qty: 4}})
		wantFills(t, sells, 10, 1, seed, []api.Fill{{ID: 9, Qty: 1}, {ID: y[0] + 1, Qty: 1}})
	}
	if slices.Min(firsts[:]) == 0 {
		t.Error("no seed has put one of the three first:", firsts)
	}
}

// The last seed is followed by 0.
func TestLastSeed(t *testing.T) {
	l := []api.Lot{buy(1, 5, 1), sell(2, 5, 1), sell(3, 5, 1), sell(4, 5, 1), sell(5, 5, 1), sell(6, 5, 1)}
	wantFills(t, l, 5, 1, math.MaxUint32, []api.Fill{{ID: 1, Qty: 1}, {ID: 2 + order(5, 2463534242)[0], Qty: 1}})
}

// Any price at which so much is traded will do, not the one that clears alone.
func TestAnyPrice(t *testing.T) {
	l := []api.Lot{buy(1, 1000, 5), buy(2, 500, 5), sell(3, 1, 5), sell(4, 500, 5)}
	for _, price := range []int{1, 2, 499, 501, 999, 1000} {
		wantFills(t, l, price, 5, 3, []api.Fill{{ID: 1, Qty: 5}, {ID: 3, Qty: 5}})
		wantFills(t, l, price, 2, 3, []api.Fill{{ID: 1, Qty: 2}, {ID: 3, Qty: 2}})
		wantError(t, l, price, 6, api.ErrShape)
	}
	wantFills(t, l, 500, 10, 3, []api.Fill{{ID: 1, Qty: 5}, {ID: 2, Qty: 5}, {ID: 3, Qty: 5}, {ID: 4, Qty: 5}})
	wantError(t, l, 500, 11, api.ErrShape)
}

func wantError(t *testing.T, l []api.Lot, price, volume int, want error) {
	t.Helper()
	for _, seed := range seeds {
		if got, err := ration.Fills(l, price, volume, seed); len(got) != 0 || err != want {
			t.Errorf("Fills(%v, %d, %d, %d) = %v, %v, want %v", l, price, volume, seed, got, err, want)
		}
	}
}

func TestWrongNumbers(t *testing.T) {
	for _, l := range [][]api.Lot{nil, {buy(1, 10, 5)}, {sell(1, 10, 5)}, {buy(1, 10, 5), sell(2, 9, 5)}} {
		// bounds are told ahead of a volume that is too much
		for _, price := range []int{0, -1, 1001, 1 << 32, math.MinInt, math.MaxInt} {
			for _, volume := range []int{0, 1, 5, 6, -1, math.MinInt, math.MaxInt} {
				wantError(t, l, price, volume, api.ErrBound)
			}
		}
		for _, price := range []int{1, 9, 10, 1000} {
			for _, volume := range []int{-1, -2, math.MinInt, -1 << 32} {
				wantError(t, l, price, volume, api.ErrBound)
			}
			for _, volume := range []int{6, 1 << 32, math.MaxInt} {
				wantError(t, l, price, volume, api.ErrShape)
			}
		}
	}
	wantError(t, nil, 10, 1, api.ErrShape)
	wantError(t, []api.Lot{buy(1, 10, 5), sell(2, 9, 5)}, 8, 1, api.ErrShape)
	wantError(t, []api.Lot{buy(1, 10, 5), sell(2, 9, 5)}, 11, 1, api.ErrShape)
}

// Lots that are not well are told ahead of all else, with their place.
func TestWrongLots(t *testing.T) {
	for _, c := range []struct {
		x    api.Lot
		want error
	}{
		{buy(0, 10, 5), api.ErrBound}, {buy(1<<30+1, 10, 5), api.ErrBound},
		{buy(3, 0, 5), api.ErrBound}, {buy(3, 1001, 5), api.ErrBound}, {sell(3, math.MaxInt, 5), api.ErrBound}, {sell(3, math.MinInt, 5), api.ErrBound},
		{sell(3, 10, 0), api.ErrBound}, {sell(3, 10, 1001), api.ErrBound}, {sell(3, 10, math.MinInt), api.ErrBound},
		{api.Lot{ID: 3, Side: 2, Price: 10, Qty: 5}, api.ErrBound}, {api.Lot{ID: 3, Side: -1, Price: 10, Qty: 5}, api.ErrBound},
		{api.Lot{ID: 3, Owner: 6, Price: 10, Qty: 5}, api.ErrBound}, {api.Lot{ID: 3, Owner: -1, Price: 10, Qty: 5}, api.ErrBound},
		{sell(1, 10, 5), api.ErrExist}, {buy(2, 9, 5), api.ErrExist},
	} {
		l := []api.Lot{buy(1, 10, 5), sell(2, 9, 5), c.x}
		for _, price := range []int{10, 0, 1001} {
			for _, volume := range []int{0, 5, -1, 99} {
				got, err := ration.Fills(l, price, volume, 1)
				f, ok := err.(*api.Fault)
				if len(got) != 0 || !ok || f.At != 2 || f.Err != c.want {
					t.Errorf("Fills(%v, %d, %d) = %v, %v, want %v at 2", l, price, volume, got, err, c.want)
				}
			}
		}
	}
}

func TestTooManyLots(t *testing.T) {
	var l []api.Lot
	for i := range 121 {
		l = append(l, api.Lot{ID: i + 1, Side: i % 2, Price: 500, Qty: 1})
	}
	for _, price := range []int{500, 0} {
		for _, volume := range []int{0, 1, -1, 99} {
			wantError(t, l, price, volume, api.ErrFull)
		}
	}
	if got, err := ration.Fills(l[:120], 500, 60, 1); len(got) != 120 || err != nil {
		t.Errorf("Fills of 120 lots = %v, %v", got, err)
	}
}

// Lots are only read, and only within their length; fills are new memory.
func TestLotsAreOnlyRead(t *testing.T) {
	all := []api.Lot{sell(1, 9, 4), buy(2, 12, 3), buy(3, 10, 2), {ID: 1, Price: -1}, buy(2, 1000, 1000)}
	l, was := all[:3], slices.Clone(all)
	for range 2 {
		wantFills(t, l, 10, 4, 5, []api.Fill{{ID: 2, Qty: 3}, {ID: 3, Qty: 1}, {ID: 1, Qty: 4}})
		got, _ := ration.Fills(l, 10, 4, 5)
		clear(got[:cap(got)])
	}
	if !slices.Equal(all, was) {
		t.Errorf("lots are now %v, were %v", all, was)
	}
}

// total of a side at a price, made without the program.
func total(l []api.Lot, side, p int) int {
	n := 0
	for _, x := range l {
		if x.Side == side && (side == 0 && x.Price >= p || side == 1 && x.Price <= p) {
			n += x.Qty
		}
	}
	return n
}

// shared by the document's words, price by price, made without the program.
func shared(l []api.Lot, side, price, volume int, seed uint32) []api.Fill {
	p, step := 1000, -1
	if side == 1 {
		p, step = 1, 1
	}
	var fills []api.Fill
	for ; p != price+step; p += step {
		at, whole := []api.Lot{}, 0
		for _, x := range l {
			if x.Side == side && x.Price == p {
				at, whole = append(at, x), whole+x.Qty
			}
		}
		if whole > volume {
			return append(fills, margin(at, volume, seed)...)
		}
		for _, x := range at {
			fills = append(fills, api.Fill{ID: x.ID, Qty: x.Qty})
		}
		volume -= whole
	}
	return fills
}

func margin(at []api.Lot, volume int, seed uint32) []api.Fill {
	var fills []api.Fill
	for _, i := range order(len(at), seed) {
		if volume == 0 {
			break
		}
		qty := at[i].Qty
		if qty > volume {
			qty = volume
		}
		fills = append(fills, api.Fill{ID: at[i].ID, Qty: qty})
		volume -= qty
	}
	return fills
}

// deal: lots, a price, and how much is traded there.
type deal struct {
	l             []api.Lot
	price, volume int
}

// deals of lots that are well: few and many, of near and of far prices, at any price and of any volume.
func deals() []deal {
	r := rand.New(rand.NewSource(5))
	var all []deal
	for range 40 {
		for _, prices := range []int{1, 2, 5, 20, 1000} {
			for _, l := range [][]api.Lot{drawn(r, r.Intn(121), prices, 50), drawn(r, r.Intn(12), prices, 3)} {
				price := r.Intn(1000) + 1
				if len(l) > 0 {
					price = l[r.Intn(len(l))].Price
				}
				most := min(total(l, 0, price), total(l, 1, price))
				all = append(all, deal{l, price, most}, deal{l, price, r.Intn(most + 1)}, deal{l, price, min(1, most)})
			}
		}
	}
	return all
}

func drawn(r *rand.Rand, n, prices, qty int) []api.Lot {
	var l []api.Lot
	first := r.Intn(1000-prices+1) + 1
	for _, id := range r.Perm(n) {
		l = append(l, api.Lot{ID: id*9 + 1, Owner: r.Intn(6), Side: r.Intn(2), Price: first + r.Intn(prices), Qty: r.Intn(qty) + 1})
	}
	return l
}

func TestFillsOfDraws(t *testing.T) {
	for i, d := range deals() {
		seed := seeds[i%len(seeds)]
		want := slices.Concat(shared(d.l, 0, d.price, d.volume, seed), shared(d.l, 1, d.price, d.volume, seed+1))
		wantFills(t, d.l, d.price, d.volume, seed, want)
		most := min(total(d.l, 0, d.price), total(d.l, 1, d.price))
		if got, err := ration.Fills(d.l, d.price, most+1, seed); len(got) != 0 || err != api.ErrShape {
			t.Errorf("Fills(%v, %d, %d) = %v, %v", d.l, d.price, most+1, got, err)
		}
	}
}

// What is bought is sold; who offers strictly better is not behind.
func TestFillsAreFair(t *testing.T) {
	some, part := 0, 0
	for i, d := range deals() {
		fills, err := ration.Fills(d.l, d.price, d.volume, uint32(i))
		if err != nil {
			t.Fatalf("Fills(%v, %d, %d) = %v", d.l, d.price, d.volume, err)
		}
		got := byID(t, d.l, fills)
		for side := range 2 {
			if n := sum(d.l, got, side); n != d.volume {
				t.Errorf("side %d of %v at %d has %d of %d", side, d.l, d.price, n, d.volume)
			}
		}
		wantNobodyBehind(t, d, got)
		some += min(1, d.volume)
		if d.volume < total(d.l, 0, d.price) && d.volume < total(d.l, 1, d.price) {
			part++
		}
	}
	if some < 100 || part < 100 {
		t.Error("too few deals, or too few of which both sides have more:", some, part)
	}
}

// byID: what each got, of whom each is there once, with something.
func byID(t *testing.T, l []api.Lot, fills []api.Fill) map[int]int {
	t.Helper()
	got := map[int]int{}
	for _, f := range fills {
		at := slices.IndexFunc(l, func(x api.Lot) bool { return x.ID == f.ID })
		if at < 0 || got[f.ID] != 0 || f.Qty < 1 || f.Qty > l[at].Qty {
			t.Fatalf("%v of %v", fills, l)
		}
		got[f.ID] = f.Qty
	}
	return got
}

func sum(l []api.Lot, got map[int]int, side int) int {
	n := 0
	for _, x := range l {
		if x.Side == side {
			n += got[x.ID]
		}
	}
	return n
}

func wantNobodyBehind(t *testing.T, d deal, got map[int]int) {
	t.Helper()
	for _, x := range d.l {
		if got[x.ID] == 0 {
			continue
		}
		if x.Side == 0 && x.Price < d.price || x.Side == 1 && x.Price > d.price {
			t.Errorf("%v is worse than %d and gets something", x, d.price)
		}
		for _, y := range d.l {
			isBetter := y.Side == x.Side && (x.Side == 0 && y.Price > x.Price || x.Side == 1 && y.Price < x.Price)
			if isBetter && got[y.ID] != y.Qty {
				t.Errorf("%v gets %d, and %v, which is better, %d", x, got[x.ID], y, got[y.ID])
			}
		}
	}
}
