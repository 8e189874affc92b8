package venue_test

import (
	"fmt"
	"testing"

	"gavelhouse/api"
	"gavelhouse/tape"
	"gavelhouse/venue"
)

// A tape that is handed over is its own: it writes at the end, and reads nothing.
func TestNewOn(t *testing.T) {
	d, err := tape.NewDisk("")
	if err != nil {
		t.Fatal(err)
	}
	if err := tape.Append(d, "no record of a batch"); err != nil {
		t.Fatal(err)
	}
	v, err := venue.NewOn(plainConfig, d)
	if err != nil || v.Tape() != d || v.Batches() != 0 || v.Now() != 0 {
		t.Fatalf("NewOn: %v, batches %d, now %d", err, v.Batches(), v.Now())
	}
	runBatch(v)
	wantRecords(t, v, "no record of a batch", "0:")
	if v, err := venue.NewOn(venue.Config{}, d); v != nil || err != api.ErrBound {
		t.Errorf("NewOn(%+v) = %v, %v", venue.Config{}, v, err)
	}
}

// Without a tape nothing can be told.
func TestNewOnNothing(t *testing.T) {
	v, err := venue.NewOn(plainConfig, nil)
	if err != nil {
		t.Fatal(err)
	}
	sendAll(t, v, 0, login(), order(0, api.Buy, 99, 1, 1))
	wantTold(t, runBatch(v))
	if !v.Down() || v.Batches() != 0 {
		t.Errorf("down %v, batches %d", v.Down(), v.Batches())
	}
}

// Batches that are repeated leave a venue as those that were run, but for sessions and the tape.
func TestRepeat(t *testing.T) {
	v, again := newVenue(t, plainConfig), newVenue(t, plainConfig)
	loginAll(t, v)
	buy, sell := order(1, api.Buy, 101, 4, 7), order(1, api.Sell, 99, 9, 8)
	sendAll(t, v, 0, buy)
	sendAll(t, v, 1, sell, order(0, api.Buy, 10, 1, 9))
	runBatch(v)
	sendAll(t, v, 1, logout())
	beatAllBut(t, v, 1)
	runBatch(v)

	other := order(0, api.Buy, 10, 1, 9)
	buy.Client, sell.Client, other.Client = 0, 1, 1
	again.Repeat(nil, []api.Ask{buy, sell, other})
	if got := fmt.Sprint(again.Floor().Book(1).Lots(), again.Floor().Book(0).Lots()); got != "[{8 1 1 99 5}] [{9 1 0 10 1}]" {
		t.Errorf("in the books: %s", got)
	}
	again.Repeat([]int{1}, nil)
	if again.Now() != 6 || again.Batches() != 2 || again.Tape().Bytes() != "" {
		t.Errorf("now %d, batches %d, tape %q", again.Now(), again.Batches(), again.Tape().Bytes())
	}
	for item := range 3 {
		wantLots(t, again, item, v.Floor().Book(item).Lots()...)
	}
	for client := range 6 {
		if got, want := again.Floor().Purse().Of(client), v.Floor().Purse().Of(client); got != want {
			t.Errorf("client %d has %v, want %v", client, got, want)
		}
	}
	again.Repeat(strange, nil) // clients that are none have no lots to drop
	if again.Batches() != 3 {
		t.Errorf("batches %d", again.Batches())
	}
}

func beatAllBut(t *testing.T, v *venue.Venue, not int) {
	t.Helper()
	for client := range 6 {
		if client != not {
			sendAll(t, v, client, beat())
		}
	}
}
