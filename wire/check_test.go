package wire_test

import (
	"math"
	"testing"

	"gavelhouse/api"
	"gavelhouse/wire"
)

// Requests with every field that their kind has at its highest.
var (
	topLogin  = api.Ask{Kind: api.Login, Client: 5, Seq: 1 << 30}
	topBeat   = api.Ask{Kind: api.Beat, Client: 5, Seq: 1 << 30}
	topPlace  = api.Ask{Kind: api.Place, Client: 5, Seq: 1 << 30, Item: 2, Side: 1, Price: 1000, Qty: 1000, ID: 1 << 30}
	topCancel = api.Ask{Kind: api.Cancel, Client: 5, Seq: 1 << 30, Item: 2, ID: 1 << 30}
	topLogout = api.Ask{Kind: api.Logout, Client: 5, Seq: 1 << 30}
	lowPlace  = api.Ask{Kind: api.Place, Price: 1, Qty: 1}
)

// goodAsks: of each kind the lowest, the highest and one between.
func goodAsks() []api.Ask {
	return []api.Ask{
		{Kind: api.Login}, {Kind: api.Login, Client: 2, Seq: 1}, topLogin,
		{Kind: api.Beat}, {Kind: api.Beat, Client: 3, Seq: 77}, topBeat,
		lowPlace, {Kind: api.Place, Client: 1, Seq: 0x0A0B0C0D, Item: 1, Side: api.Buy, Price: 0x0123, Qty: 0x0304, ID: 0x11223344}, topPlace,
		{Kind: api.Cancel}, {Kind: api.Cancel, Client: 4, Seq: 256, Item: 1, ID: 65536}, topCancel,
		{Kind: api.Logout}, {Kind: api.Logout, Client: 1, Seq: 9}, topLogout,
	}
}

// field of a request, by its name.
func field(a *api.Ask, name string) *int {
	switch name {
	case "Client":
		return &a.Client
	case "Seq":
		return &a.Seq
	case "Item":
		return &a.Item
	case "Side":
		return &a.Side
	case "Price":
		return &a.Price
	case "Qty":
		return &a.Qty
	}
	return &a.ID
}

func with(a api.Ask, name string, x int) api.Ask {
	*field(&a, name) = x
	return a
}

func wantCheck(t *testing.T, a api.Ask, want error) {
	t.Helper()
	if err := wire.Check(a); err != want {
		t.Errorf("Check(%+v) = %v, want %v", a, err, want)
	}
	s, err := wire.Encode(a)
	if err != want || (s == "") != (want != nil) {
		t.Errorf("Encode(%+v) = %x, %v, want %v", a, s, err, want)
	}
}

func TestCheckTakesEachKind(t *testing.T) {
	for _, a := range goodAsks() {
		wantCheck(t, a, nil)
	}
}

func TestCheckKind(t *testing.T) {
	known := map[byte]int{'l': 1, 'h': 1, 'o': 1, 'c': 1, 'q': 1}
	for k := range 256 {
		if known[byte(k)] == 1 {
			continue
		}
		wantCheck(t, api.Ask{Kind: byte(k)}, api.ErrKind)
		wantCheck(t, api.Ask{Kind: byte(k), Client: -1, Seq: -1, Item: 9, Side: 9, Price: -1, Qty: -1, ID: -1}, api.ErrKind)
	}
}

func TestCheckBounds(t *testing.T) {
	everyKind := []api.Ask{topLogin, topBeat, topPlace, topCancel, topLogout}
	for _, c := range []struct {
		name      string
		low, high int
		of        []api.Ask
	}{
		{"Client", 0, 5, everyKind},
		{"Seq", 0, 1 << 30, everyKind},
		{"ID", 0, 1 << 30, []api.Ask{topPlace, topCancel}},
		{"Item", 0, 2, []api.Ask{topPlace, topCancel}},
		{"Side", 0, 1, []api.Ask{topPlace}},
		{"Price", 1, 1000, []api.Ask{topPlace}},
		{"Qty", 1, 1000, []api.Ask{topPlace}},
	} {
		for _, a := range c.of {
			for _, x := range []int{c.low, c.low + 1, c.high - 1, c.high} {
				wantCheck(t, with(a, c.name, x), nil)
			}
			for _, x := range []int{c.low - 1, c.high + 1, c.low + 256*256*256*256, math.MinInt, math.MaxInt} {
				wantCheck(t, with(a, c.name, x), api.ErrBound)
			}
		}
	}
}

func TestCheckShape(t *testing.T) {
	bare := []string{"Item", "Side", "Price", "Qty", "ID"}
	for _, c := range []struct {
		a     api.Ask
		names []string
	}{
		{topLogin, bare},
		{topBeat, bare},
		{topLogout, bare},
		{topCancel, []string{"Side", "Price", "Qty"}},
	} {
		for _, name := range c.names {
			wantCheck(t, with(c.a, name, 1), api.ErrShape)
			if name == "ID" {
				wantCheck(t, with(c.a, name, 1<<30), api.ErrShape)
				continue
			}
			for _, x := range []int{-1, 1 << 20, math.MinInt, math.MaxInt} {
				wantCheck(t, with(c.a, name, x), api.ErrShape)
			}
		}
	}
}

// A kind that has no ID is asked for its bound all the same, and ahead of its shape.
func TestCheckOrder(t *testing.T) {
	for _, a := range []api.Ask{topLogin, topBeat, topLogout} {
		wantCheck(t, with(a, "ID", -1), api.ErrBound)
		wantCheck(t, with(a, "ID", 1<<30+1), api.ErrBound)
		wantCheck(t, with(with(a, "Item", 1), "Client", 6), api.ErrBound)
		wantCheck(t, with(with(a, "Qty", 1), "Seq", -1), api.ErrBound)
	}
	wantCheck(t, with(with(topCancel, "Side", 1), "Item", 3), api.ErrBound)
	wantCheck(t, with(with(topCancel, "Price", 1), "ID", -1), api.ErrBound)
}
