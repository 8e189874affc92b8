package batch_test

import (
	"fmt"
	"math"
	"testing"

	"gavelhouse/api"
	"gavelhouse/band"
	"gavelhouse/batch"
	"gavelhouse/purse"
)

type stocks = [api.Items]int

// Numbers of no item, and of no client.
var strange = []int{-1, 6, 7, 255, 1 << 32, 1<<32 + 1, math.MinInt, math.MaxInt}

var tenth = band.Rule{Width: 10, Halt: 2}

func newFloor(t *testing.T, r band.Rule, ref, cash, stock int) *batch.Floor {
	t.Helper()
	f, err := batch.New(r, ref, cash, stock)
	if err != nil || f == nil {
		t.Fatalf("New(%v, %d, %d, %d) = %v, %v", r, ref, cash, stock, f, err)
	}
	return f
}

// state: all that can be told of a floor.
func state(f *batch.Floor) string {
	s := ""
	for n := range 3 {
		s += fmt.Sprintf("item %d: %v %v\n", n, f.Band(n), f.Book(n).Lots())
	}
	for client := range 6 {
		s += fmt.Sprintf("client %d: %v\n", client, f.Purse().Of(client))
	}
	return s
}

// wantKept: a call has this error, and changes nothing.
func wantKept(t *testing.T, f *batch.Floor, want error, call func() error) {
	t.Helper()
	ahead := state(f)
	if err := call(); err != want {
		t.Errorf("error %v, want %v", err, want)
	}
	if behind := state(f); behind != ahead {
		t.Errorf("a call with an error made of\n%sthis:\n%s", ahead, behind)
	}
}

func wantHas(t *testing.T, f *batch.Floor, client int, want purse.Has) {
	t.Helper()
	if got := f.Purse().Of(client); got != want {
		t.Errorf("client %d has %v, want %v", client, got, want)
	}
}

func wantBook(t *testing.T, f *batch.Floor, n int, want ...api.Lot) {
	t.Helper()
	if got := f.Book(n).Lots(); fmt.Sprint(got) != fmt.Sprint(want) {
		t.Errorf("in the book of item %d: %v, want %v", n, got, want)
	}
}

func wantBand(t *testing.T, f *batch.Floor, n int, want band.Band) {
	t.Helper()
	if got := f.Band(n); got != want {
		t.Errorf("band of item %d: %v, want %v", n, got, want)
	}
}

func TestNewFloor(t *testing.T) {
	for _, c := range []struct {
		r                band.Rule
		ref, cash, stock int
	}{
		{tenth, 100, 20000, 100},
		{band.Rule{Width: 0, Halt: 1}, 1, 0, 0},
		{band.Rule{Width: 100, Halt: 1000}, 1000, 1 << 30, 100000},
		{tenth, 1, 1 << 30, 0},
		{tenth, 1000, 0, 100000},
	} {
		f := newFloor(t, c.r, c.ref, c.cash, c.stock)
		for n := range 3 {
			wantBand(t, f, n, band.Band{Ref: c.ref})
			wantBook(t, f, n)
		}
		for client := range 6 {
			wantHas(t, f, client, purse.Has{Cash: c.cash, Stock: stocks{c.stock, c.stock, c.stock}})
		}
		cash, stock := f.Purse().Total()
		if all := 6 * c.stock; cash != 6*c.cash || stock != (stocks{all, all, all}) || cash > api.MaxCash || all > api.MaxStock {
			t.Errorf("all have %d and %v", cash, stock)
		}
	}
}

func TestNewBounds(t *testing.T) {
	for _, c := range []struct {
		name      string
		low, high int
		call      func(x int) (*batch.Floor, error)
	}{
		{"Width", 0, 100, func(x int) (*batch.Floor, error) { return batch.New(band.Rule{Width: x, Halt: 1}, 1, 0, 0) }},
		{"Halt", 1, 1000, func(x int) (*batch.Floor, error) { return batch.New(band.Rule{Halt: x}, 1, 0, 0) }},
		{"ref", 1, 1000, func(x int) (*batch.Floor, error) { return batch.New(tenth, x, 0, 0) }},
		{"cash", 0, 1 << 30, func(x int) (*batch.Floor, error) { return batch.New(tenth, 1, x, 0) }},
		{"stock", 0, 100000, func(x int) (*batch.Floor, error) { return batch.New(tenth, 1, 0, x) }},
	} {
		for _, x := range []int{c.low, c.low + 1, c.high - 1, c.high} {
			if f, err := c.call(x); f == nil || err != nil {
				t.Errorf("%s of %d: %v", c.name, x, err)
			}
		}
		for _, x := range []int{c.low - 1, c.high + 1, -c.high - 1, c.low + 1<<32, c.low + 1<<62, math.MinInt, math.MaxInt} {
			if f, err := c.call(x); f != nil || err != api.ErrBound {
				t.Errorf("%s of %d: %v, %v, want nil, ErrBound", c.name, x, f, err)
			}
		}
	}
	if f, err := batch.New(band.Rule{}, 0, -1, -1); f != nil || err != api.ErrBound {
		t.Errorf("all wrong: %v, %v", f, err)
	}
}

func TestNoSuchItem(t *testing.T) {
	f := newFloor(t, tenth, 100, 10, 10)
	for _, n := range append(strange, 3) {
		if b := f.Book(n); b != nil {
			t.Errorf("Book(%d) = %v", n, b)
		}
		wantBand(t, f, n, band.Band{})
		wantKept(t, f, api.ErrBound, func() error {
			r, err := f.Run(n, 1)
			if r.Price != 0 || r.Volume != 0 || r.Open || r.Fills != nil {
				t.Errorf("Run(%d) = %v", n, r)
			}
			return err
		})
	}
}

// What Book and Purse hand out is the floor's own, now and behind each later call; a Band is a copy.
func TestItsOwn(t *testing.T) {
	f := newFloor(t, tenth, 100, 1000, 10)
	own, purses := f.Book(1), f.Purse()
	place(t, f, ask(0, 1, api.Buy, 100, 4, 1))
	place(t, f, ask(1, 1, api.Sell, 100, 4, 2))
	if f.Book(1) != own || f.Purse() != purses || f.Book(0) == own || f.Book(2) == own {
		t.Error("not its own")
	}
	if got := fmt.Sprint(own.Lots()); got != "[{1 0 0 100 4} {2 1 1 100 4}]" || purses.Of(0).Held != 400 {
		t.Error(got, purses.Of(0))
	}
	wantRun(t, f, 1, 1, "{100 4 true [{1 4} {2 4}]}")
	if f.Book(1) != own || f.Purse() != purses || len(own.Lots()) > 0 || purses.Of(0) != (purse.Has{Cash: 600, Stock: stocks{10, 14, 10}}) {
		t.Error("not its own behind a batch", own.Lots(), purses.Of(0))
	}
	b := f.Band(1)
	b.Ref = 7
	wantBand(t, f, 1, band.Band{Ref: 100})

	// Seen by the floor, too: more cash, and another lot.
	if err := purses.Give(0, 5000, stocks{}); err != nil {
		t.Fatal(err)
	}
	place(t, f, ask(0, 1, api.Buy, 1000, 5, 3))
	if err := own.Add(api.Lot{ID: 4, Owner: 1, Side: api.Sell, Price: 9, Qty: 1}); err != nil {
		t.Fatal(err)
	}
	wantNoPlace(t, f, ask(2, 1, api.Sell, 9, 1, 4), api.ErrExist)
}

func TestFloorsShareNothing(t *testing.T) {
	f, other := newFloor(t, tenth, 100, 1000, 10), newFloor(t, tenth, 100, 1000, 10)
	ahead := state(other)
	place(t, f, ask(0, 0, api.Buy, 105, 4, 1))
	place(t, f, ask(1, 0, api.Sell, 105, 3, 2))
	wantRun(t, f, 0, 1, "{105 3 true [{1 3} {2 3}]}")
	f.Drop(0)
	if behind := state(other); behind != ahead {
		t.Errorf("another floor was\n%sand is\n%s", ahead, behind)
	}
}
