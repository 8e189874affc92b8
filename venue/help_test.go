package venue_test

import (
	"fmt"
	"math"
	"strings"
	"testing"

	"gavelhouse/api"
	"gavelhouse/band"
	"gavelhouse/tape"
	"gavelhouse/venue"
	"gavelhouse/wire"
)

var plainConfig = venue.Config{Seed: 7, Rule: band.Rule{Width: 10, Halt: 2}, Ref: 100, Cash: 20000, Stock: 100}

// Numbers of no client.
var strange = []int{-1, 6, 7, 255, 256, 1 << 32, 1<<32 + 1, math.MinInt, math.MaxInt}

func newVenue(t *testing.T, c venue.Config) *venue.Venue {
	t.Helper()
	v, err := venue.New(c)
	if err != nil || v == nil {
		t.Fatalf("New(%+v) = %v, %v", c, v, err)
	}
	return v
}

func login() api.Ask  { return api.Ask{Kind: api.Login} }
func beat() api.Ask   { return api.Ask{Kind: api.Beat} }
func logout() api.Ask { return api.Ask{Kind: api.Logout} }

func order(item, side, price, qty, id int) api.Ask {
	return api.Ask{Kind: api.Place, Item: item, Side: side, Price: price, Qty: qty, ID: id}
}

func cancel(item, id int) api.Ask { return api.Ask{Kind: api.Cancel, Item: item, ID: id} }

// frame of a request, with this number, of this client.
func frame(t *testing.T, client, seq int, a api.Ask) string {
	t.Helper()
	a.Client, a.Seq = client, seq
	s, err := wire.Encode(a)
	if err != nil {
		t.Fatalf("Encode(%+v): %v", a, err)
	}
	return s
}

// frames of requests of a client, numbered on from a first one.
func frames(t *testing.T, client, seq int, l ...api.Ask) string {
	t.Helper()
	s := ""
	for i, a := range l {
		s += frame(t, client, seq+i, a)
	}
	return s
}

// send requests with the numbers that the client's session awaits, one at a time.
func send(t *testing.T, v *venue.Venue, client int, l ...api.Ask) []api.Report {
	t.Helper()
	var reports []api.Report
	for _, a := range l {
		seq := 1
		if a.Kind != api.Login {
			seq = v.Session(client).Next
		}
		reports = append(reports, v.Feed(client, frame(t, client, seq, a))...)
	}
	return reports
}

// sendAll: each must be accepted, if it is one that is told of.
func sendAll(t *testing.T, v *venue.Venue, client int, l ...api.Ask) {
	t.Helper()
	for _, r := range send(t, v, client, l...) {
		if r.Kind != "accepted" {
			t.Errorf("sent, and told %+v", r)
		}
	}
}

func loginAll(t *testing.T, v *venue.Venue) {
	t.Helper()
	for client := range 6 {
		sendAll(t, v, client, login())
	}
}

func beatAll(t *testing.T, v *venue.Venue) {
	t.Helper()
	for client := range 6 {
		sendAll(t, v, client, beat())
	}
}

func ticks(v *venue.Venue, n int) []api.Report {
	var reports []api.Report
	for range n {
		reports = append(reports, v.Tick()...)
	}
	return reports
}

// runBatch: the ticks up to the end of the next one.
func runBatch(v *venue.Venue) []api.Report {
	return ticks(v, 3-v.Now()%3)
}

// told: reports as CLIENT KIND ID, PRICE QTY, CODE.
func told(l []api.Report) string {
	var out []string
	for _, r := range l {
		out = append(out, fmt.Sprintf("%d %s %d, %d %d, %d", r.Client, r.Kind, r.ID, r.Price, r.Qty, r.Code))
	}
	return strings.Join(out, "; ")
}

func wantTold(t *testing.T, got []api.Report, want ...string) {
	t.Helper()
	if s := told(got); s != strings.Join(want, "; ") {
		t.Errorf("told %q, want %q", s, strings.Join(want, "; "))
	}
}

func wantLots(t *testing.T, v *venue.Venue, item int, want ...api.Lot) {
	t.Helper()
	if got := v.Floor().Book(item).Lots(); fmt.Sprint(got) != fmt.Sprint(want) {
		t.Errorf("in the book of item %d: %v, want %v", item, got, want)
	}
}

func wantRecords(t *testing.T, v *venue.Venue, want ...string) {
	t.Helper()
	got, n := tape.Read(v.Tape().Bytes())
	if fmt.Sprintf("%q", got) != fmt.Sprintf("%q", want) || n != len(v.Tape().Bytes()) {
		t.Errorf("on the tape: %q, in %d bytes of %d, want %q", got, n, len(v.Tape().Bytes()), want)
	}
}

// state: all that can be told of a venue.
func state(v *venue.Venue) string {
	f := v.Floor()
	s := fmt.Sprintf("now %d, batches %d, down %v, tape %v %q\n", v.Now(), v.Batches(), v.Down(), v.Tape().Power(), v.Tape().Bytes())
	for item := range 3 {
		s += fmt.Sprintf("item %d: %v %v\n", item, f.Band(item), f.Book(item).Lots())
	}
	for client := range 6 {
		s += fmt.Sprintf("client %d: %v %v, %d wait\n", client, f.Purse().Of(client), v.Session(client), v.Wait(client))
	}
	return s
}
