package venue_test

import (
	"fmt"
	"math"
	"testing"

	"gavelhouse/api"
	"gavelhouse/band"
	"gavelhouse/purse"
	"gavelhouse/ration"
	"gavelhouse/session"
	"gavelhouse/venue"
)

func TestTicks(t *testing.T) {
	v := newVenue(t, plainConfig)
	for n := 1; n <= 40; n++ {
		wantTold(t, v.Tick())
		if v.Now() != n || v.Batches() != n/3 || v.Down() {
			t.Errorf("behind %d ticks: now %d, batches %d, down %v", n, v.Now(), v.Batches(), v.Down())
		}
	}
}

// Who is silent for 5 ticks is not late; for 6, it is.
func TestLate(t *testing.T) {
	for last := range 7 {
		v := newVenue(t, plainConfig)
		sendAll(t, v, 1, login())
		for range last {
			v.Tick()
			sendAll(t, v, 1, beat())
		}
		ticks(v, 5)
		if s := v.Session(1); s != (session.Session{On: true, Next: 2 + last, Last: last}) {
			t.Errorf("silent since %d, at %d: %+v", last, v.Now(), s)
		}
		ticks(v, 1)
		wantSession(t, v, 1, session.Session{})
	}
}

// Only a request that is taken is a word.
func TestRefusedIsNoWord(t *testing.T) {
	v := newVenue(t, plainConfig)
	sendAll(t, v, 1, login())
	for range 5 {
		v.Tick()
		v.Feed(1, frame(t, 1, 7, beat())+frame(t, 2, 2, beat())+frame(t, 1, 1, login()))
	}
	v.Tick()
	wantSession(t, v, 1, session.Session{})
}

// Who is late between two batches is dropped with the next one; what waits goes at once, and what came of a frame.
func TestLateClient(t *testing.T) {
	v := newVenue(t, plainConfig)
	ticks(v, 1)
	sendAll(t, v, 2, login())
	sendAll(t, v, 3, login())
	for id := range 6 {
		sendAll(t, v, 2, order(1, api.Buy, 60+id, 1, 1+id))
		sendAll(t, v, 3, order(1, api.Buy, 50+id, 1, 11+id))
	}
	whole := frame(t, 2, 1, login())
	wantTold(t, v.Feed(2, whole[:20]))
	wantTold(t, runBatch(v), "2 rests 1, 60 1, 0", "2 rests 2, 61 1, 0", "3 rests 11, 50 1, 0", "3 rests 12, 51 1, 0")
	sendAll(t, v, 3, beat())
	wantTold(t, runBatch(v), "2 rests 3, 62 1, 0", "2 rests 4, 63 1, 0", "3 rests 13, 52 1, 0", "3 rests 14, 53 1, 0")
	wantWait(t, v, 2, 2)
	wantTold(t, v.Tick())
	wantSession(t, v, 2, session.Session{})
	wantWait(t, v, 2, 0)
	wantWait(t, v, 3, 2)
	if got := len(v.Floor().Book(1).Owner(2)); got != 4 {
		t.Errorf("%d lots rest ahead of the batch", got)
	}
	// The twenty bytes of the old reader are gone: a whole frame is one.
	wantTold(t, v.Feed(2, whole+frame(t, 2, 2, order(1, api.Buy, 70, 1, 1))), "2 accepted 1, 0 0, 0")
	sendAll(t, v, 3, beat())
	wantTold(t, runBatch(v), "2 gone 1, 60 1, 0", "2 gone 2, 61 1, 0", "2 gone 3, 62 1, 0", "2 gone 4, 63 1, 0",
		"2 rests 1, 70 1, 0", "3 rests 15, 54 1, 0", "3 rests 16, 55 1, 0")
	// It was dropped once.
	sendAll(t, v, 2, beat())
	wantTold(t, runBatch(v))
	asks := []string{frame(t, 2, 2, order(1, api.Buy, 70, 1, 1)), frame(t, 3, 6, order(1, api.Buy, 54, 1, 15)), frame(t, 3, 7, order(1, api.Buy, 55, 1, 16))}
	wantLastRecords(t, v, fmt.Sprintf("2:2 %x %x %x", asks[0], asks[1], asks[2]), "3:")
}

// Clients are dropped rising, item by item, and each of their lots goes ahead of any request.
func TestDrop(t *testing.T) {
	v := newVenue(t, plainConfig)
	loginAll(t, v)
	for _, client := range []int{5, 0, 4} {
		sendAll(t, v, client, order(2, api.Sell, 130, 2, 1+client), order(0, api.Buy, 80, 3, 1+client), order(0, api.Buy, 81, 4, 11+client))
	}
	runBatch(v)
	beatAll(t, v)
	runBatch(v)
	beatAll(t, v)
	for _, client := range []int{5, 0} {
		sendAll(t, v, client, logout())
	}
	sendAll(t, v, 3, order(0, api.Buy, 82, 5, 1), cancel(0, 6))
	if has := v.Floor().Purse().Of(5); has.Held != 3*80+4*81 || has.Kept != [3]int{0, 0, 2} {
		t.Errorf("ahead of the drop: %+v", has)
	}
	wantTold(t, runBatch(v),
		"0 gone 1, 80 3, 0", "0 gone 11, 81 4, 0", "0 gone 1, 130 2, 0",
		"5 gone 6, 80 3, 0", "5 gone 16, 81 4, 0", "5 gone 6, 130 2, 0",
		"3 refused 6, 0 0, 6", "3 rests 1, 82 5, 0")
	for _, client := range []int{5, 0} {
		if has := v.Floor().Purse().Of(client); has != (purse.Has{Cash: 20000, Stock: [3]int{100, 100, 100}}) {
			t.Errorf("behind the drop: %+v", has)
		}
	}
	wantLots(t, v, 0, api.Lot{ID: 5, Owner: 4, Price: 80, Qty: 3}, api.Lot{ID: 15, Owner: 4, Price: 81, Qty: 4}, api.Lot{ID: 1, Owner: 3, Price: 82, Qty: 5})
	wantLots(t, v, 2, api.Lot{ID: 5, Owner: 4, Side: api.Sell, Price: 130, Qty: 2})
}

// Requests that the floor refuses: each with its number.
func TestBatchRefuses(t *testing.T) {
	v := newVenue(t, plainConfig)
	loginAll(t, v)
	sendAll(t, v, 0, order(0, api.Buy, 90, 1, 1), order(0, api.Buy, 90, 1, 0))
	sendAll(t, v, 1, order(0, api.Buy, 90, 1, 1), order(1, api.Buy, 1000, 21, 2))
	sendAll(t, v, 2, order(1, api.Sell, 90, 101, 3), cancel(0, 1))
	sendAll(t, v, 3, cancel(0, 9), cancel(1, 0))
	wantTold(t, runBatch(v),
		"0 refused 0, 0 0, 2", "1 refused 1, 0 0, 7", "1 refused 2, 0 0, 10", "2 refused 3, 0 0, 10", "2 refused 1, 0 0, 6",
		"3 refused 9, 0 0, 6", "3 refused 0, 0 0, 6", "0 rests 1, 90 1, 0")
	wantLots(t, v, 0, api.Lot{ID: 1, Owner: 0, Price: 90, Qty: 1})
	wantLots(t, v, 1)
}

// A book that is full refuses; a cancel that the same batch has ahead of it makes room.
func TestBatchFull(t *testing.T) {
	v := newVenue(t, plainConfig)
	loginAll(t, v)
	for n := range 5 {
		beatAll(t, v)
		for client := range 6 {
			sendAll(t, v, client, order(0, api.Buy, 10, 1, 1+100*client+2*n), order(0, api.Buy, 10, 1, 2+100*client+2*n))
		}
		if got := runBatch(v); len(got) != 12 {
			t.Fatalf("%s", told(got))
		}
	}
	// The turn is client 5's.
	beatAll(t, v)
	sendAll(t, v, 5, order(0, api.Buy, 10, 1, 1000), order(1, api.Buy, 10, 1, 1000))
	sendAll(t, v, 0, cancel(0, 1), order(0, api.Buy, 11, 1, 1))
	sendAll(t, v, 1, order(0, api.Buy, 10, 1, 1001))
	wantTold(t, runBatch(v), "5 refused 1000, 0 0, 8", "0 gone 1, 10 1, 0", "1 refused 1001, 0 0, 8", "0 rests 1, 11 1, 0", "5 rests 1000, 10 1, 0")
}

func TestBatchCancels(t *testing.T) {
	v := newVenue(t, plainConfig)
	loginAll(t, v)
	sendAll(t, v, 0, order(2, api.Sell, 104, 9, 5))
	sendAll(t, v, 1, order(2, api.Buy, 104, 4, 6))
	wantTold(t, runBatch(v), "1 filled 6, 104 4, 0", "0 filled 5, 104 4, 0", "0 rests 5, 104 5, 0")
	beatAll(t, v)
	sendAll(t, v, 0, cancel(2, 5), cancel(2, 5))
	wantTold(t, runBatch(v), "0 gone 5, 104 5, 0", "0 refused 5, 0 0, 6")
	if has := v.Floor().Purse().Of(0); has != (purse.Has{Cash: 20416, Stock: [3]int{100, 100, 96}}) {
		t.Errorf("behind the cancel: %+v", has)
	}
	wantLots(t, v, 2)
}

// An order that is placed and cancelled in one batch rests nowhere, and trades nothing.
func TestBatchPlacesAndCancels(t *testing.T) {
	v := newVenue(t, plainConfig)
	loginAll(t, v)
	sendAll(t, v, 0, order(0, api.Buy, 100, 3, 7), cancel(0, 7))
	sendAll(t, v, 1, order(0, api.Sell, 100, 3, 8))
	wantTold(t, runBatch(v), "0 gone 7, 100 3, 0", "1 rests 8, 100 3, 0")
}

// Of an ID that was placed, went, and was placed again, the last one alone is told, in its own place.
func TestBatchPlacesAgain(t *testing.T) {
	v := newVenue(t, plainConfig)
	loginAll(t, v)
	sendAll(t, v, 0, order(0, api.Buy, 91, 1, 7), cancel(0, 7))
	sendAll(t, v, 1, order(0, api.Buy, 92, 2, 7), cancel(0, 7))
	sendAll(t, v, 2, order(0, api.Buy, 93, 3, 8), order(1, api.Buy, 94, 4, 7))
	sendAll(t, v, 3, order(0, api.Buy, 95, 5, 7), order(0, api.Buy, 96, 6, 9))
	sendAll(t, v, 4, order(0, api.Buy, 97, 7, 7))
	wantTold(t, runBatch(v),
		"0 gone 7, 91 1, 0", "1 gone 7, 92 2, 0", "4 refused 7, 0 0, 7",
		"2 rests 8, 93 3, 0", "3 rests 7, 95 5, 0", "3 rests 9, 96 6, 0", "2 rests 7, 94 4, 0")
}

// An ID of an item is another one's too: a cancel of the one leaves the other.
func TestBatchSameIDOfItems(t *testing.T) {
	v := newVenue(t, plainConfig)
	loginAll(t, v)
	sendAll(t, v, 0, order(0, api.Buy, 91, 1, 7), order(1, api.Buy, 92, 1, 7))
	sendAll(t, v, 1, order(2, api.Buy, 93, 1, 7), cancel(0, 7))
	sendAll(t, v, 2, order(2, api.Sell, 93, 1, 5), cancel(2, 5))
	wantTold(t, runBatch(v), "1 refused 7, 0 0, 6", "2 gone 5, 93 1, 0", "0 rests 7, 91 1, 0", "0 rests 7, 92 1, 0", "1 rests 7, 93 1, 0")
	beatAll(t, v)
	// The turn is client 1's.
	sendAll(t, v, 1, cancel(2, 7), order(0, api.Buy, 94, 1, 6))
	sendAll(t, v, 0, cancel(0, 7), order(0, api.Buy, 95, 1, 7))
	wantTold(t, runBatch(v), "1 gone 7, 93 1, 0", "0 gone 7, 91 1, 0", "1 rests 6, 94 1, 0", "0 rests 7, 95 1, 0")
}

// Items trade rising; of each its fills, then what rests of this batch's orders, by their own prices; what rests from earlier ones is not told again.
func TestBatchTrades(t *testing.T) {
	v := newVenue(t, plainConfig)
	loginAll(t, v)
	sendAll(t, v, 0, order(2, api.Buy, 106, 4, 1), order(0, api.Buy, 103, 4, 2))
	wantTold(t, runBatch(v), "0 rests 2, 103 4, 0", "0 rests 1, 106 4, 0")
	beatAll(t, v)
	sendAll(t, v, 1, order(2, api.Sell, 99, 2, 3), order(2, api.Buy, 98, 2, 4))
	sendAll(t, v, 2, order(0, api.Sell, 101, 9, 5), order(1, api.Sell, 99, 2, 6))
	wantTold(t, runBatch(v),
		"0 filled 2, 101 4, 0", "2 filled 5, 101 4, 0", "2 rests 5, 101 5, 0",
		"2 rests 6, 99 2, 0",
		"0 filled 1, 100 2, 0", "1 filled 3, 100 2, 0", "1 rests 4, 98 2, 0")
	wantLots(t, v, 2, api.Lot{ID: 1, Owner: 0, Price: 106, Qty: 2}, api.Lot{ID: 4, Owner: 1, Price: 98, Qty: 2})
	if has := v.Floor().Purse().Of(0); has != (purse.Has{Cash: 20000 - 404 - 200, Held: 212, Stock: [3]int{104, 100, 102}}) {
		t.Errorf("the buyer has %+v", has)
	}
}

// A batch that is halted fills nothing: its orders rest.
func TestBatchHalts(t *testing.T) {
	v := newVenue(t, plainConfig)
	loginAll(t, v)
	sendAll(t, v, 0, order(1, api.Buy, 120, 2, 1))
	sendAll(t, v, 1, order(1, api.Sell, 120, 1, 2))
	wantTold(t, runBatch(v), "0 rests 1, 120 2, 0", "1 rests 2, 120 1, 0")
	if b := v.Floor().Band(1); b != (band.Band{Ref: 100, Left: 2}) {
		t.Errorf("band %v", b)
	}
	for range 2 {
		beatAll(t, v)
		wantTold(t, runBatch(v))
	}
	beatAll(t, v)
	wantTold(t, runBatch(v), "0 filled 1, 120 1, 0", "1 filled 2, 120 1, 0")
}

// Lots are drawn by the seed of Seed plus three times Batches plus the item, in 32 bits.
func TestBatchSeeds(t *testing.T) {
	seen := map[string]int{}
	for _, seed := range []uint32{0, 1, 7, 1 << 31, math.MaxUint32 - 8, math.MaxUint32 - 1, math.MaxUint32} {
		c := plainConfig
		c.Seed = seed
		for n := range 6 {
			for item := range 3 {
				v := newVenue(t, c)
				ticks(v, 3*n)
				got, want := drawnBy(t, v, item, seed+uint32(3*n+item))
				if fmt.Sprint(got) != fmt.Sprint(want) {
					t.Errorf("seed %d, batch %d, item %d: %v, want %v", seed, n, item, got, want)
				}
				seen[fmt.Sprint(got)]++
			}
		}
	}
	if len(seen) < 20 {
		t.Errorf("only %d draws were seen", len(seen))
	}
}

// drawnBy: of five buys of an item, at one price, and one sell of less: the IDs that were filled, and those that a seed draws.
func drawnBy(t *testing.T, v *venue.Venue, item int, seed uint32) (got, want []int) {
	t.Helper()
	loginAll(t, v)
	first := v.Batches() % 6 // whose turn it is
	var lots []api.Lot
	for n := range 6 {
		client := (first + n) % 6
		l := api.Lot{ID: 1 + n, Owner: client, Side: api.Buy, Price: 100, Qty: 2}
		if n == 5 {
			l.Side, l.Qty = api.Sell, 5
		}
		lots = append(lots, l)
		sendAll(t, v, client, order(item, l.Side, l.Price, l.Qty, l.ID))
	}
	fills, err := ration.Fills(lots, 100, 5, seed)
	if err != nil {
		t.Fatal(err)
	}
	for _, x := range fills {
		want = append(want, x.ID, x.Qty)
	}
	for _, r := range runBatch(v) {
		if r.Kind == "filled" {
			got = append(got, r.ID, r.Qty)
			if r.Client != lots[r.ID-1].Owner || r.Price != 100 {
				t.Errorf("told %+v, of %+v", r, lots[r.ID-1])
			}
		}
	}
	return got, want
}

// Some of each, in turns.
func TestBatchTurns(t *testing.T) {
	v := newVenue(t, plainConfig)
	loginAll(t, v)
	for client := range 6 {
		for id := range 5 {
			sendAll(t, v, client, order(0, api.Buy, 10, 1, 1+10*client+id))
		}
	}
	for n := range 4 {
		var want []string
		for k := range 6 {
			client := (n + k) % 6
			for id := 2 * n; id < min(2*n+2, 5); id++ {
				want = append(want, fmt.Sprintf("%d rests %d, 10 1, 0", client, 1+10*client+id))
			}
		}
		wantTold(t, runBatch(v), want...)
		beatAll(t, v)
		for client := range 6 {
			wantWait(t, v, client, max(0, 3-2*n))
		}
	}
}
