package recover_test

import (
	"fmt"
	"strings"
	"testing"

	"gavelhouse/api"
	"gavelhouse/band"
	"gavelhouse/four"
	"gavelhouse/tape"
	"gavelhouse/venue"
	"gavelhouse/wire"
)

var plainConfig = venue.Config{Seed: 7, Rule: band.Rule{Width: 10, Halt: 2}, Ref: 100, Cash: 20000, Stock: 100}

func newVenue(t *testing.T, c venue.Config) *venue.Venue {
	t.Helper()
	v, err := venue.New(c)
	if err != nil {
		t.Fatalf("New(%+v): %v", c, err)
	}
	return v
}

func login() api.Ask  { return api.Ask{Kind: api.Login} }
func beat() api.Ask   { return api.Ask{Kind: api.Beat} }
func logout() api.Ask { return api.Ask{Kind: api.Logout} }

func order(item, side, price, qty, id int) api.Ask {
	return api.Ask{Kind: api.Place, Item: item, Side: side, Price: price, Qty: qty, ID: id}
}

func cancel(item, id int) api.Ask { return api.Ask{Kind: api.Cancel, Item: item, ID: id} }

// of a client, with a number.
func of(client, seq int, a api.Ask) api.Ask {
	a.Client, a.Seq = client, seq
	return a
}

func frame(t *testing.T, a api.Ask) string {
	t.Helper()
	s, err := wire.Encode(a)
	if err != nil {
		t.Fatalf("Encode(%+v): %v", a, err)
	}
	return s
}

// sealed: 26 bytes, and their sum, which is right.
func sealed(b []byte) string { return string(four.AppendLow(b, wire.Sum(string(b)))) }

// changed frame, whose sum is right all the same.
func changed(frame string, at int, to byte) string {
	b := []byte(frame[:26])
	b[at] = to
	return sealed(b)
}

// written: a record by the words of the document.
func written(t *testing.T, batch int, drops []int, asks []api.Ask) string {
	t.Helper()
	s := fmt.Sprintf("%d:%s", batch, strings.Trim(strings.ReplaceAll(fmt.Sprint(drops), " ", ","), "[]"))
	for _, a := range asks {
		s += fmt.Sprintf(" %x", frame(t, a))
	}
	return s
}

// send requests with the numbers that the client's session awaits.
func send(t *testing.T, v *venue.Venue, client int, l ...api.Ask) []api.Report {
	t.Helper()
	var reports []api.Report
	for _, a := range l {
		seq := 1
		if a.Kind != api.Login {
			seq = v.Session(client).Next
		}
		reports = append(reports, v.Feed(client, frame(t, of(client, seq, a)))...)
	}
	return reports
}

// runBatch: the ticks up to the end of the next one.
func runBatch(v *venue.Venue) []api.Report {
	var reports []api.Report
	for range 3 - v.Now()%3 {
		reports = append(reports, v.Tick()...)
	}
	return reports
}

// told: reports as CLIENT KIND ID, PRICE QTY, CODE.
func told(l []api.Report) string {
	var out []string
	for _, r := range l {
		out = append(out, fmt.Sprintf("%d %s %d, %d %d, %d", r.Client, r.Kind, r.ID, r.Price, r.Qty, r.Code))
	}
	return strings.Join(out, "; ")
}

func wantTold(t *testing.T, got []api.Report, want ...string) {
	t.Helper()
	if s := told(got); s != strings.Join(want, "; ") {
		t.Errorf("told %q, want %q", s, strings.Join(want, "; "))
	}
}

// floorOf a venue: books, purses, bands, and how many batches.
func floorOf(v *venue.Venue) string {
	f := v.Floor()
	s := fmt.Sprintf("batches %d\n", v.Batches())
	for item := range 3 {
		s += fmt.Sprintf("item %d: %v %v\n", item, f.Band(item), f.Book(item).Lots())
	}
	for client := range 6 {
		s += fmt.Sprintf("client %d: %v\n", client, f.Purse().Of(client))
	}
	return s
}

func diskOf(t *testing.T, bytes string) *tape.Disk {
	t.Helper()
	d, err := tape.NewDisk(bytes)
	if err != nil {
		t.Fatal(err)
	}
	return d
}

// diskWith records.
func diskWith(t *testing.T, records ...string) *tape.Disk {
	t.Helper()
	d := diskOf(t, "")
	for _, s := range records {
		if err := tape.Append(d, s); err != nil {
			t.Fatal(err)
		}
	}
	return d
}
