package play_test

import (
	"fmt"
	"strings"
	"testing"

	"gavelhouse/api"
	"gavelhouse/play"
	"gavelhouse/recover"
	"gavelhouse/tape"
	"gavelhouse/venue"
)

func begin(t *testing.T, k int) *play.Player {
	t.Helper()
	p, err := play.New(k)
	if err != nil || p == nil || p.Venue() == nil {
		t.Fatalf("New(%d) = %v, %v", k, p, err)
	}
	return p
}

// number of a step: of a client, of a kind, by r.
func number(client, which, r int) int { return 6*(10*r+which) + client }

func login(client int) int  { return number(client, 0, 0) }
func beat(client int) int   { return number(client, 1, 0) }
func logout(client int) int { return number(client, 9, 0) }
func tick() int             { return number(0, 8, 0) }

func order(client, item, side, price, qty int) int {
	return number(client, 2, orderParts(item, side, price, qty))
}

// orderParts: the least r of an order.
func orderParts(item, side, price, qty int) int {
	return item + 3*side + 6*(price-90) + 120*(qty-1)
}

// cancel the order that is a client's first, second, ...
func cancel(client, item, nth int) int { return number(client, 7, item+3*(nth-1)) }

// times: a step, over and over.
func times(n, v int) []int {
	var l []int
	for range n {
		l = append(l, v)
	}
	return l
}

// loginAll clients.
func loginAll() []int {
	return []int{login(0), login(1), login(2), login(3), login(4), login(5)}
}

// told: reports as CLIENT KIND ID, PRICE QTY, CODE.
func told(l []api.Report) string {
	var out []string
	for _, r := range l {
		out = append(out, fmt.Sprintf("%d %s %d, %d %d, %d", r.Client, r.Kind, r.ID, r.Price, r.Qty, r.Code))
	}
	return strings.Join(out, "; ")
}

func wantTold(t *testing.T, got []api.Report, want ...string) {
	t.Helper()
	if s := told(got); s != strings.Join(want, "; ") {
		t.Errorf("told %q, want %q", s, strings.Join(want, "; "))
	}
}

// asked: the requests that are on a venue's tape.
func asked(t *testing.T, v *venue.Venue) []api.Ask {
	t.Helper()
	records, n := tape.Read(v.Tape().Bytes())
	if n != len(v.Tape().Bytes()) {
		t.Fatalf("%d bytes of %d on the tape are records", n, len(v.Tape().Bytes()))
	}
	var asks []api.Ask
	for _, s := range records {
		_, _, l, err := recover.Read(s)
		if err != nil {
			t.Fatalf("on the tape: %q: %v", s, err)
		}
		asks = append(asks, l...)
	}
	return asks
}

func wantAsked(t *testing.T, v *venue.Venue, want ...api.Ask) {
	t.Helper()
	if got := asked(t, v); fmt.Sprint(got) != fmt.Sprint(want) {
		t.Errorf("on the tape: %v, want %v", got, want)
	}
}

func wantSum(t *testing.T, v *venue.Venue, lines ...string) {
	t.Helper()
	want := ""
	for _, s := range lines {
		want += s + "\n"
	}
	if got := play.Sum(v); got != want {
		t.Errorf("sum is\n%swant\n%s", got, want)
	}
}

// state: all that can be told of a venue.
func state(v *venue.Venue) string {
	s := fmt.Sprintf("now %d, batches %d, down %v, tape %v %q\n", v.Now(), v.Batches(), v.Down(), v.Tape().Power(), v.Tape().Bytes())
	for client := range 6 {
		s += fmt.Sprintf("client %d: %v, %d wait\n", client, v.Session(client), v.Wait(client))
	}
	return s + written(v)
}

// written: a venue's sum by the words of the document.
func written(v *venue.Venue) string {
	f := v.Floor()
	s := ""
	for item := range 3 {
		s += fmt.Sprintf("%d %d", f.Band(item).Ref, f.Band(item).Left)
		for _, l := range f.Book(item).Lots() {
			s += fmt.Sprintf(" %d:%d:%d:%d:%d", l.ID, l.Owner, l.Side, l.Price, l.Qty)
		}
		s += "\n"
	}
	for client := range 6 {
		h := f.Purse().Of(client)
		s += fmt.Sprintf("%d %d %d %d %d %d %d %d\n", h.Cash, h.Held, h.Stock[0], h.Kept[0], h.Stock[1], h.Kept[1], h.Stock[2], h.Kept[2])
	}
	return s
}
