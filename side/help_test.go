package side_test

import (
	"errors"
	"fmt"
	"testing"

	"gavelhouse/api"
)

func buy(id, price, qty int) api.Lot { return api.Lot{ID: id, Side: api.Buy, Price: price, Qty: qty} }
func sell(id, price, qty int) api.Lot {
	return api.Lot{ID: id, Owner: 1, Side: api.Sell, Price: price, Qty: qty}
}

// trade: lots whose one price is this.
func trade(price int) []api.Lot { return []api.Lot{buy(1, price, 2), sell(2, price, 2)} }

// many lots that are well, all of them buys.
func many(n int) []api.Lot {
	var l []api.Lot
	for id := range n {
		l = append(l, buy(id+1, 10, 1))
	}
	return l
}

// number of a step of a play: of a client, of a kind, by r.
func number(client, which, r int) int { return 6*(10*r+which) + client }

// counts of workers: all that there may be.
func counts() []int {
	var l []int
	for w := 1; w <= 16; w++ {
		l = append(l, w)
	}
	return l
}

// wrongCounts of workers.
func wrongCounts() []int {
	return []int{0, -1, -16, 17, 18, 256, 257, 1 << 32, 1<<32 + 1, -1 << 63, 1<<63 - 1}
}

func wantList[A any](t *testing.T, name string, got []A, err error, want ...A) {
	t.Helper()
	if err != nil || len(got) != len(want) || fmt.Sprintf("%#v", got) != fmt.Sprintf("%#v", want) && len(want) > 0 {
		t.Errorf("%s: %#v, %v, want %#v", name, got, err, want)
	}
}

// wantBare: the error, without a place, and no list.
func wantBare[A any](t *testing.T, name string, got []A, err, want error) {
	t.Helper()
	if err != want || len(got) > 0 {
		t.Errorf("%s: %v, %v (%T), want %v", name, got, err, err, want)
	}
}

// wantFault: the error, at this place alone, and no list.
func wantFault[A any](t *testing.T, name string, got []A, err, want error, at int) {
	t.Helper()
	var f *api.Fault
	if !errors.As(err, &f) || error(f) != err || f.At != at || f.Err != want || len(got) > 0 {
		t.Errorf("%s: %v, %#v, want %v at %d", name, got, err, want, at)
	}
}
