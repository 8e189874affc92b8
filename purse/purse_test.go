package purse_test

import (
	"math"
	"testing"

	"gavelhouse/api"
	"gavelhouse/purse"
)

const (
	maxCash  = 1 << 40
	maxStock = 1 << 30
)

// stocks of the three items.
type stocks = [3]int

// Numbers of no client, and of no item.
var strange = []int{math.MinInt, -1 << 32, -1, 6, 7, 1 << 32, math.MaxInt}

func give(t *testing.T, p *purse.Purse, client, cash int, stock stocks) {
	t.Helper()
	if err := p.Give(client, cash, stock); err != nil {
		t.Fatalf("Give(%d, %d, %v) = %v", client, cash, stock, err)
	}
}

// all: what each client has, to be held against what it has later.
func all(p *purse.Purse) [6]purse.Has {
	var a [6]purse.Has
	for i := range a {
		a[i] = p.Of(i)
	}
	return a
}

func wantAll(t *testing.T, p *purse.Purse, want [6]purse.Has) {
	t.Helper()
	for i, got := range all(p) {
		if got != want[i] {
			t.Errorf("client %d has %v, want %v", i, got, want[i])
		}
	}
}

func wantOf(t *testing.T, p *purse.Purse, client int, want purse.Has) {
	t.Helper()
	if got := p.Of(client); got != want {
		t.Errorf("Of(%d) = %v, want %v", client, got, want)
	}
}

func wantTotal(t *testing.T, p *purse.Purse, cash int, stock stocks) {
	t.Helper()
	if c, s := p.Total(); c != cash || s != stock {
		t.Errorf("Total() = %d, %v, want %d, %v", c, s, cash, stock)
	}
}

// wantKept: the call tells the bare error, and nobody has more or less than ahead of it.
func wantKept(t *testing.T, p *purse.Purse, call func() error, want error) {
	t.Helper()
	was := all(p)
	if err := call(); err != want {
		t.Errorf("%v, want %v", err, want)
	}
	wantAll(t, p, was)
}

func TestNewHasNothing(t *testing.T) {
	p := purse.New()
	wantAll(t, p, [6]purse.Has{})
	wantTotal(t, p, 0, stocks{})
}

func TestNewPursesAreTheirOwn(t *testing.T) {
	a, b := purse.New(), purse.New()
	give(t, a, 3, 7, stocks{1, 2, 3})
	wantAll(t, b, [6]purse.Has{})
	give(t, b, 3, 5, stocks{})
	wantOf(t, a, 3, purse.Has{Cash: 7, Stock: stocks{1, 2, 3}})
}

func TestGive(t *testing.T) {
	for client := range 6 {
		p := purse.New()
		var want [6]purse.Has
		give(t, p, client, 0, stocks{})
		wantAll(t, p, want)
		give(t, p, client, 10, stocks{1, 0, 5})
		want[client] = purse.Has{Cash: 10, Stock: stocks{1, 0, 5}}
		wantAll(t, p, want)
		give(t, p, client, 3, stocks{0, 4, 2})
		want[client] = purse.Has{Cash: 13, Stock: stocks{1, 4, 7}}
		wantAll(t, p, want)
		wantTotal(t, p, 13, stocks{1, 4, 7})
	}
}

func TestGiveBounds(t *testing.T) {
	p := purse.New()
	give(t, p, 2, 100, stocks{10, 10, 10})
	for _, client := range strange {
		wantKept(t, p, func() error { return p.Give(client, 1, stocks{1, 1, 1}) }, api.ErrBound)
		wantKept(t, p, func() error { return p.Give(client, 0, stocks{}) }, api.ErrBound)
	}
	for _, less := range []int{-1, -100, -1 << 40, math.MinInt} {
		wantKept(t, p, func() error { return p.Give(2, less, stocks{}) }, api.ErrBound)
		for i := range 3 {
			var stock stocks
			stock[i] = less
			wantKept(t, p, func() error { return p.Give(2, 1, stock) }, api.ErrBound)
		}
	}
}

func TestGiveUpToTheMost(t *testing.T) {
	p := purse.New()
	give(t, p, 0, maxCash, stocks{maxStock, maxStock, maxStock})
	give(t, p, 0, 0, stocks{})
	wantOf(t, p, 0, purse.Has{Cash: maxCash, Stock: stocks{maxStock, maxStock, maxStock}})
	give(t, p, 1, maxCash-1, stocks{maxStock - 1, 0, 7})
	give(t, p, 1, 1, stocks{1, maxStock, maxStock - 7})
	wantOf(t, p, 1, p.Of(0))
	for client := range 2 {
		for _, more := range []int{1, 2, maxCash, math.MaxInt - maxCash, math.MaxInt} {
			wantKept(t, p, func() error { return p.Give(client, more, stocks{}) }, api.ErrFull)
			for i := range 3 {
				var stock stocks
				stock[i] = more
				wantKept(t, p, func() error { return p.Give(client, 0, stock) }, api.ErrFull)
			}
		}
	}
}

// What is one too much keeps what would fit from coming, whichever it is.
func TestGiveAllOrNothing(t *testing.T) {
	p := purse.New()
	give(t, p, 4, 5, stocks{5, 5, 5})
	for _, more := range []int{1, 1 << 50, math.MaxInt - maxCash + 5} {
		wantKept(t, p, func() error { return p.Give(4, maxCash-5+more, stocks{1, 1, 1}) }, api.ErrFull)
		wantKept(t, p, func() error { return p.Give(4, 1, stocks{maxStock - 5 + more, 1, 1}) }, api.ErrFull)
		wantKept(t, p, func() error { return p.Give(4, 1, stocks{1, maxStock - 5 + more, 1}) }, api.ErrFull)
		wantKept(t, p, func() error { return p.Give(4, 1, stocks{1, 1, maxStock - 5 + more}) }, api.ErrFull)
	}
	give(t, p, 4, maxCash-5, stocks{maxStock - 5, maxStock - 5, maxStock - 5})
}

func TestGiveOrderOfErrors(t *testing.T) {
	p := purse.New()
	give(t, p, 1, 1, stocks{1, 1, 1})
	wantKept(t, p, func() error { return p.Give(6, maxCash, stocks{maxStock, maxStock, maxStock}) }, api.ErrBound)
	wantKept(t, p, func() error { return p.Give(1, -1, stocks{maxStock, maxStock, maxStock}) }, api.ErrBound)
	wantKept(t, p, func() error { return p.Give(1, maxCash, stocks{maxStock, maxStock, -1}) }, api.ErrBound)
	wantKept(t, p, func() error { return p.Give(1, maxCash, stocks{-1, 0, 0}) }, api.ErrBound)
}

// What is held counts in cash and stock: it leaves no room beside them, and what is given is not held.
func TestGiveBesideWhatIsHeld(t *testing.T) {
	p := purse.New()
	give(t, p, 2, 100, stocks{0, 10, 0})
	hold(t, p, 0, lot(2, api.Buy, 10, 10))
	hold(t, p, 1, lot(2, api.Sell, 10, 10))
	wantKept(t, p, func() error { return p.Give(2, maxCash-99, stocks{}) }, api.ErrFull)
	wantKept(t, p, func() error { return p.Give(2, 0, stocks{0, maxStock - 9, 0}) }, api.ErrFull)
	give(t, p, 2, maxCash-100, stocks{0, maxStock - 10, 0})
	wantOf(t, p, 2, purse.Has{Cash: maxCash, Held: 100, Stock: stocks{0, maxStock, 0}, Kept: stocks{0, 10, 0}})
}

func TestOfNoClient(t *testing.T) {
	p := purse.New()
	for client := range 6 {
		give(t, p, client, 5, stocks{1, 2, 3})
	}
	for _, client := range strange {
		wantOf(t, p, client, purse.Has{})
	}
}

// What is answered is the caller's own, and so is what is given.
func TestOfIsNewMemory(t *testing.T) {
	p := purse.New()
	stock := stocks{1, 2, 3}
	give(t, p, 5, 9, stock)
	stock[1] = 77
	has := p.Of(5)
	has.Cash, has.Stock[0], has.Kept[2] = 1000, 1000, 1000
	_, total := p.Total()
	total[0] = 1000
	wantOf(t, p, 5, purse.Has{Cash: 9, Stock: stocks{1, 2, 3}})
	wantTotal(t, p, 9, stocks{1, 2, 3})
}

func TestTotal(t *testing.T) {
	p := purse.New()
	for client := range 6 {
		give(t, p, client, 1<<(8*client/2), stocks{1 << client, 100 << client, 10000 << client})
	}
	wantTotal(t, p, 1+1<<4+1<<8+1<<12+1<<16+1<<20, stocks{63, 6300, 630000})
	hold(t, p, 2, lot(5, api.Buy, 1000, 1000)) // what is held is in the total
	hold(t, p, 2, lot(5, api.Sell, 1000, 1000))
	wantTotal(t, p, 1+1<<4+1<<8+1<<12+1<<16+1<<20, stocks{63, 6300, 630000})
}

func TestTotalOfTheMost(t *testing.T) {
	p := purse.New()
	for client := range 6 {
		give(t, p, client, maxCash, stocks{maxStock, maxStock, maxStock})
	}
	wantTotal(t, p, 6*maxCash, stocks{6 * maxStock, 6 * maxStock, 6 * maxStock})
}

func TestCopyIsItsOwn(t *testing.T) {
	p := purse.New()
	for client := range 6 {
		give(t, p, client, 1000+client, stocks{client, 10, 20})
		hold(t, p, 1, lot(client, api.Buy, 3, 5))
		hold(t, p, 2, lot(client, api.Sell, 3, 5))
	}
	q := p.Copy()
	was := all(p)
	wantAll(t, q, was)
	churn := func(x *purse.Purse) {
		give(t, x, 3, 1, stocks{1, 1, 1})
		hold(t, x, 0, lot(4, api.Buy, 2, 2))
		hold(t, x, 1, lot(4, api.Sell, 2, 2))
		free(t, x, 0, lot(5, api.Buy, 3, 5))
		free(t, x, 2, lot(5, api.Sell, 3, 5))
		trade(t, x, 2, lot(0, api.Buy, 3, 5), lot(1, api.Sell, 3, 5), 3, 5)
	}
	churn(p)
	wantAll(t, q, was)
	now := all(p)
	churn(q)
	wantAll(t, p, now)
	wantAll(t, q, now)
	wantAll(t, p.Copy().Copy(), now)
}
