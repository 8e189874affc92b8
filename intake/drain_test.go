package intake_test

import (
	"slices"
	"testing"

	"gavelhouse/api"
	"gavelhouse/intake"
)

func wantDrain(t *testing.T, i *intake.Intake, want []api.Ask) {
	t.Helper()
	if got := i.Drain(); !slices.Equal(got, want) {
		t.Errorf("drained %+v, want %+v", got, want)
	}
}

// wantIDs of a drain: each is 100 times the client, and the ID.
func wantIDs(t *testing.T, i *intake.Intake, want ...int) {
	t.Helper()
	var got []int
	for _, a := range i.Drain() {
		got = append(got, 100*a.Client+a.ID)
	}
	if !slices.Equal(got, want) {
		t.Errorf("drained %v, want %v", got, want)
	}
}

// The first Quota of each are drained, and the rest stays, in order.
func TestDrainOfQuota(t *testing.T) {
	i := intake.New()
	put(t, i, 1, 9)
	put(t, i, 2, 8, 7)
	put(t, i, 3, 6, 5, 4)
	put(t, i, 4, 3, 2, 1, 0)
	wantIDs(t, i, 109, 208, 207, 306, 305, 403, 402)
	wantWait(t, i, [6]int{3: 1, 4: 2}, 1)
	wantIDs(t, i, 304, 401, 400)
	wantWait(t, i, [6]int{}, 2)
	wantIDs(t, i)
}

// Who put first does not count, but for the requests of one client.
func TestDrainByTurnNotByComing(t *testing.T) {
	i := intake.New()
	put(t, i, 5, 1)
	put(t, i, 0, 1)
	put(t, i, 3, 2)
	put(t, i, 5, 0)
	put(t, i, 3, 1)
	wantIDs(t, i, 1, 302, 301, 501, 500)
}

// From the one whose turn it is on, round to the one ahead of it.
func TestDrainRound(t *testing.T) {
	for turn := range 6 {
		i := intake.New()
		for range turn {
			i.Drain()
		}
		var want []int
		for client := range 6 {
			put(t, i, client, 1, 2, 3)
		}
		for n := turn; n < turn+6; n++ {
			want = append(want, 100*(n%6)+1, 100*(n%6)+2)
		}
		wantWait(t, i, [6]int{3, 3, 3, 3, 3, 3}, turn)
		wantIDs(t, i, want...)
		wantWait(t, i, [6]int{1, 1, 1, 1, 1, 1}, (turn+1)%6)
	}
}

// The turn goes on with each drain, also where nothing waits, and with nothing else.
func TestTurn(t *testing.T) {
	i := intake.New()
	for n := range 40 {
		if i.Turn() != n%6 {
			t.Fatalf("turn %d behind %d drains", i.Turn(), n)
		}
		if n%3 == 0 {
			put(t, i, n%6, n)
			i.Put(cancel(6, n))
			i.Wait(n % 6)
			i.Clear(3)
		}
		if i.Turn() != n%6 {
			t.Fatalf("turn %d behind %d drains, and a put", i.Turn(), n)
		}
		i.Drain()
	}
}

// All fields of a request come as they went.
func TestDrainOfFields(t *testing.T) {
	i := intake.New()
	place := api.Ask{Kind: api.Place, Client: 2, Seq: 3, Item: 1, Side: api.Sell, Price: 101, Qty: 12, ID: 7}
	gone := api.Ask{Kind: api.Cancel, Client: 2, Seq: 4, Item: 1, ID: 7}
	wantPut(t, i, place, nil)
	wantPut(t, i, gone, nil)
	wantDrain(t, i, []api.Ask{place, gone})
}

// P4: what is written into an answer, within its length and behind it, shows in no other one and not in what waits.
func TestDrainIsNewMemory(t *testing.T) {
	i := intake.New()
	for client := range 6 {
		put(t, i, client, 1, 2, 3, 4, 5, 6)
	}
	first := i.Drain()
	kept := slices.Clone(first)
	second := i.Drain()
	put(t, i, 0, 7, 8, 9, 10)
	if !slices.Equal(first, kept) {
		t.Error("a later call shows in an answer:", first)
	}
	for _, l := range [][]api.Ask{first, second} {
		l = l[:cap(l)]
		for k := range l {
			l[k] = api.Ask{Kind: 'x', Client: 99}
		}
	}
	wantIDs(t, i, 205, 206, 305, 306, 405, 406, 505, 506, 5, 6, 105, 106)
	wantIDs(t, i, 7, 8)
	wantIDs(t, i, 9, 10)
	wantIDs(t, i)
}
