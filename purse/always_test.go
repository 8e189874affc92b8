package purse_test

import (
	"math/rand"
	"testing"

	"gavelhouse/api"
	"gavelhouse/purse"
)

// move: so much of a client's cash, or of its stock of an item, came or went; or so much of it was held or let go.
type move struct {
	client, what, much int // what: 0 cash, 1 to 3 stock of an item
	held               bool
}

// journal of all moves: what a client has is summed from it anew, each time.
type journal []move

func (j journal) sum(client, what int, held bool) int {
	total := 0
	for _, m := range j {
		if m.client == client && m.what == what && m.held == held {
			total += m.much
		}
	}
	return total
}

func (j journal) has(client int) purse.Has {
	h := purse.Has{Cash: j.sum(client, 0, false), Held: j.sum(client, 0, true)}
	for i := range 3 {
		h.Stock[i], h.Kept[i] = j.sum(client, i+1, false), j.sum(client, i+1, true)
	}
	return h
}

func most(what int) int {
	if what == 0 {
		return maxCash
	}
	return maxStock
}

// after these moves: the moves that count then, and the error, if they leave more than may be (ErrFull), or a hold of less than nothing, or of more than there is (ErrPoor).
func (j journal) after(moves ...move) (journal, error) {
	next := append(j[:len(j):len(j)], moves...)
	for _, m := range moves {
		there, held := next.sum(m.client, m.what, false), next.sum(m.client, m.what, true)
		if held < 0 || m.held && m.much > 0 && held > there {
			return j, api.ErrPoor
		}
	}
	for _, m := range moves {
		if next.sum(m.client, m.what, false) > most(m.what) {
			return j, api.ErrFull
		}
	}
	return next, nil
}

func (j journal) give(client, cash int, stock stocks) (journal, error) {
	return j.after(move{client, 0, cash, false}, move{client, 1, stock[0], false}, move{client, 2, stock[1], false}, move{client, 3, stock[2], false})
}

// ask of a lot, times so much: 1 to hold it, -1 to let it go.
func ask(item int, l api.Lot, times int) move {
	if l.Side == api.Buy {
		return move{l.Owner, 0, times * l.Price * l.Qty, true}
	}
	return move{l.Owner, item + 1, times * l.Qty, true}
}

func (j journal) trade(item int, buy, sell api.Lot, price, qty int) (journal, error) {
	switch {
	case buy.Side == 1 || sell.Side == 0:
		return j, api.ErrShape
	case qty > buy.Qty || qty > sell.Qty:
		return j, api.ErrBound
	case price > buy.Price || price < sell.Price:
		return j, api.ErrOrder
	}
	return j.after(
		move{buy.Owner, 0, -buy.Price * qty, true}, move{sell.Owner, item + 1, -qty, true},
		move{buy.Owner, 0, -price * qty, false}, move{sell.Owner, 0, price * qty, false},
		move{sell.Owner, item + 1, -qty, false}, move{buy.Owner, item + 1, qty, false})
}

func drawLot(r *rand.Rand, side int) api.Lot {
	return api.Lot{ID: r.Intn(9) + 1, Owner: r.Intn(6), Side: side, Price: r.Intn(6) + 1, Qty: r.Intn(6) + 1}
}

// begin: a purse in which nobody has anything, or in which all are nearly full.
func begin(t *testing.T, r *rand.Rand, full bool) (*purse.Purse, journal) {
	t.Helper()
	p, j := purse.New(), journal(nil)
	for client := 0; full && client < 6; client++ {
		cash, stock := maxCash-r.Intn(90), stocks{maxStock - r.Intn(9), maxStock - r.Intn(9), maxStock - r.Intn(9)}
		give(t, p, client, cash, stock)
		j, _ = j.give(client, cash, stock)
	}
	return p, j
}

// step: one call, drawn, of the purse and of the journal.
func step(r *rand.Rand, p *purse.Purse, j journal) (name string, got, want error, next journal) {
	item, buy, sell := r.Intn(3), drawLot(r, api.Buy), drawLot(r, api.Sell)
	one := []api.Lot{buy, sell}[r.Intn(2)]
	switch r.Intn(8) {
	case 0:
		client, cash, stock := r.Intn(6), r.Intn(40), stocks{r.Intn(8), r.Intn(8), r.Intn(8)}
		next, want = j.give(client, cash, stock)
		return "Give", p.Give(client, cash, stock), want, next
	case 1, 2:
		next, want = j.after(ask(item, one, 1))
		return "Hold", p.Hold(item, one), want, next
	case 3:
		next, want = j.after(ask(item, one, -1))
		return "Free", p.Free(item, one), want, next
	}
	if r.Intn(9) == 0 {
		sell.Side = api.Buy
	}
	price, qty := r.Intn(6)+1, r.Intn(5)+1
	next, want = j.trade(item, buy, sell, price, qty)
	return "Trade", p.Trade(item, buy, sell, price, qty), want, next
}

func wantHeldIsThere(t *testing.T, p *purse.Purse) {
	t.Helper()
	for client := range 6 {
		h := p.Of(client)
		if h.Held < 0 || h.Held > h.Cash || h.Cash > maxCash {
			t.Errorf("client %d: cash of %v", client, h)
		}
		for i := range 3 {
			if h.Kept[i] < 0 || h.Kept[i] > h.Stock[i] || h.Stock[i] > maxStock {
				t.Errorf("client %d: stock of %v", client, h)
			}
		}
	}
}

// P73: whatever is called, trades change no total, and what is held is there; and each purse is what its moves come to.
func TestAlways(t *testing.T) {
	seen := map[string]int{}
	for seed := range 60 {
		r := rand.New(rand.NewSource(int64(seed)))
		p, j := begin(t, r, seed%3 == 0)
		for range 150 {
			cash, stock := p.Total()
			name, got, want, next := step(r, p, j)
			if got != want {
				t.Fatalf("seed %d: %s = %v, want %v", seed, name, got, want)
			}
			if j = next; name != "Give" {
				wantTotal(t, p, cash, stock)
			}
			for client := range 6 {
				wantOf(t, p, client, j.has(client))
			}
			wantHeldIsThere(t, p)
			if got != nil {
				name += ", " + got.Error()
			}
			seen[name]++
		}
		if t.Failed() {
			t.Fatal("seed", seed)
		}
	}
	for _, name := range []string{
		"Give", "Give, gavelhouse: full", "Hold", "Hold, gavelhouse: poor", "Free", "Free, gavelhouse: poor",
		"Trade", "Trade, gavelhouse: shape", "Trade, gavelhouse: bound", "Trade, gavelhouse: order", "Trade, gavelhouse: poor", "Trade, gavelhouse: full",
	} {
		if seen[name] < 10 {
			t.Errorf("%s was drawn %d times alone", name, seen[name])
		}
	}
}
