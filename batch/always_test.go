package batch_test

import (
	"fmt"
	"math/rand"
	"testing"

	"gavelhouse/api"
	"gavelhouse/band"
	"gavelhouse/batch"
	"gavelhouse/curve"
)

// pair: a floor and its model, and how often each outcome was seen.
type pair struct {
	f    *batch.Floor
	m    *model
	seen map[string]int
}

func (p pair) count(name string, err error) {
	if err != nil {
		name += ", " + err.Error()
	}
	p.seen[name]++
}

func (p pair) wantSame(t *testing.T) {
	t.Helper()
	for n := range 3 {
		wantBand(t, p.f, n, p.m.bands[n])
		wantBook(t, p.f, n, p.m.lots[n]...)
	}
	for client := range 6 {
		wantHas(t, p.f, client, p.m.has(client))
	}
}

// drawOrder: near 100, so that many cross; some far away, so that a batch leaps.
func drawOrder(r *rand.Rand, far bool) api.Ask {
	price := 94 + r.Intn(13)
	if far {
		price = 70 + r.Intn(60)
	}
	return ask(r.Intn(6), r.Intn(3), r.Intn(2), price, 1+r.Intn(7), 1+r.Intn(70))
}

// drawRest: orders that never cross, so that books get full.
func drawRest(r *rand.Rand) api.Ask {
	side := r.Intn(2)
	return ask(r.Intn(6), 0, side, 50+100*side, 1, 1+r.Intn(300))
}

func (p pair) step(t *testing.T, r *rand.Rand, mode int) {
	t.Helper()
	a := drawOrder(r, mode == 1)
	if mode == 2 {
		a = drawRest(r)
	}
	switch k := r.Intn(40); {
	case k < 28:
		got, want := p.f.Place(a), p.m.place(a)
		if got != want {
			t.Fatalf("Place(%+v) = %v, want %v", a, got, want)
		}
		p.count("Place", got)
	case k < 32:
		a = cancel(a.Client, a.Item, a.ID)
		if lots := p.m.lots[a.Item]; len(lots) > 0 && k == 31 {
			l := lots[r.Intn(len(lots))]
			a.Client, a.ID = l.Owner, l.ID
		}
		got, err := p.f.Cancel(a)
		if l, want := p.m.cancel(a); got != l || err != want {
			t.Fatalf("Cancel(%+v) = %v, %v, want %v, %v", a, got, err, l, want)
		}
		p.count("Cancel", err)
	case k == 32:
		got, want := p.f.Drop(a.Client), p.m.drop(a.Client)
		if fmt.Sprint(got) != fmt.Sprint(want) {
			t.Fatalf("Drop(%d) = %v, want %v", a.Client, got, want)
		}
		p.count("Drop", nil)
	default:
		p.run(t, a.Item, r.Uint32()>>(r.Intn(33)))
	}
}

func (p pair) run(t *testing.T, n int, seed uint32) {
	t.Helper()
	lots, cash, stock := p.f.Book(n).Lots(), cashOf(p.f), stockOf(p.f, n)
	got, err := p.f.Run(n, seed)
	if want := p.m.run(n, seed); fmt.Sprint(got) != fmt.Sprint(want) || err != nil {
		t.Fatalf("Run(%d, %d) = %v, %v, want %v", n, seed, got, err, want)
	}
	switch {
	case !got.Open && len(got.Fills) > 0:
		t.Errorf("not open, and filled: %v", got)
	case !got.Open:
		p.count("Run, halted", nil)
	case got.Volume == 0:
		p.count("Run, nothing", nil)
	default:
		p.count("Run", nil)
		wantOnePrice(t, lots, got, moved(cash, cashOf(p.f)), moved(stock, stockOf(p.f, n)))
		p.count(fmt.Sprint("Run, short ", wantBetterFilled(t, lots, got)), nil)
	}
}

func cashOf(f *batch.Floor) (all [6]int) {
	for client := range all {
		all[client] = f.Purse().Of(client).Cash
	}
	return all
}

func stockOf(f *batch.Floor, n int) (all [6]int) {
	for client := range all {
		all[client] = f.Purse().Of(client).Stock[n]
	}
	return all
}

func moved(ahead, behind [6]int) (by [6]int) {
	for client := range by {
		by[client] = behind[client] - ahead[client]
	}
	return by
}

func got(r batch.Result, id int) int {
	for _, x := range r.Fills {
		if x.ID == id {
			return x.Qty
		}
	}
	return 0
}

// All trade at one price: each client's cash moved by just that, times its stock; and its stock by its fills.
func wantOnePrice(t *testing.T, lots []api.Lot, r batch.Result, cash, stock [6]int) {
	t.Helper()
	var sides [2]int
	var fills [6]int
	for _, l := range lots {
		qty := got(r, l.ID)
		sides[l.Side] += qty
		fills[l.Owner] += qty * (1 - 2*l.Side)
	}
	if sides != [2]int{r.Volume, r.Volume} {
		t.Errorf("%v of each side, of %v", sides, r)
	}
	for client := range 6 {
		if stock[client] != fills[client] || cash[client] != -r.Price*stock[client] {
			t.Errorf("client %d: stock %d, filled %d, cash %d, at %d", client, stock[client], fills[client], cash[client], r.Price)
		}
	}
}

// Who was better than the price is filled, on a side that is short; of two that are as long as each other, both are.
func wantBetterFilled(t *testing.T, lots []api.Lot, r batch.Result) (short int) {
	t.Helper()
	sums := offered(lots, r.Price)
	short = -1
	if sums[api.Buy] < sums[api.Sell] {
		short = api.Buy
	} else if sums[api.Buy] > sums[api.Sell] {
		short = api.Sell
	}
	for _, l := range lots {
		if (short < 0 || l.Side == short) && curve.IsBetter(l.Side, l.Price, r.Price) && got(r, l.ID) != l.Qty {
			t.Errorf("%v got %d of %v", l, got(r, l.ID), r)
		}
	}
	return short
}

// P93, and P91 and P92 beside it: whatever is called, a floor is what its model is.
func TestAlways(t *testing.T) {
	seen := map[string]int{}
	for seed := range 90 {
		r := rand.New(rand.NewSource(int64(seed)))
		rule := band.Rule{Width: []int{8, 3, 100}[r.Intn(3)], Halt: 1 + r.Intn(3)}
		cash, stock := 2000, 15
		if seed%3 == 2 {
			cash, stock = 1<<30, 1000
		}
		p := pair{newFloor(t, rule, 100, cash, stock), newModel(rule, 100, cash, stock), seen}
		for range 200 {
			p.step(t, r, seed%3)
			p.wantSame(t)
			if t.Failed() {
				t.Fatal("seed", seed)
			}
		}
		if c, s := p.f.Purse().Total(); c != 6*cash || s != (stocks{6 * stock, 6 * stock, 6 * stock}) {
			t.Errorf("seed %d: all have %d and %v", seed, c, s)
		}
	}
	for _, name := range []string{
		"Place", "Place, gavelhouse: exist", "Place, gavelhouse: full", "Place, gavelhouse: poor", "Cancel", "Cancel, gavelhouse: none",
		"Drop", "Run", "Run, halted", "Run, nothing", "Run, short -1", "Run, short 0", "Run, short 1",
	} {
		if seen[name] < 20 {
			t.Errorf("%s was seen %d times alone", name, seen[name])
		}
	}
}
