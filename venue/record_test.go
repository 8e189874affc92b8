package venue_test

import (
	"fmt"
	"strings"
	"testing"

	"gavelhouse/api"
	"gavelhouse/tape"
	"gavelhouse/venue"
)

// wantLastRecords of the tape.
func wantLastRecords(t *testing.T, v *venue.Venue, want ...string) {
	t.Helper()
	got, _ := tape.Read(v.Tape().Bytes())
	got = got[max(0, len(got)-len(want)):]
	if fmt.Sprintf("%q", got) != fmt.Sprintf("%q", want) {
		t.Errorf("at the end of the tape: %q, want %q", got, want)
	}
}

func TestRecordsOfNothing(t *testing.T) {
	v := newVenue(t, plainConfig)
	var want []string
	for n := range 120 {
		wantRecords(t, v, want...)
		ticks(v, 3)
		want = append(want, fmt.Sprintf("%d:", n))
	}
	wantRecords(t, v, want...)
}

// A frame whose bytes are spelt out: no word of the program made it.
func TestRecordOfBytes(t *testing.T) {
	v := newVenue(t, plainConfig)
	sendAll(t, v, 3, login())
	s := frame(t, 3, 2, order(2, api.Sell, 1000, 171, 0x2abcdef0))
	wantTold(t, v.Feed(3, s), "3 accepted 717020912, 0 0, 0")
	runBatch(v)
	fields := "6f03" + "00000002" + "0201" + "000003e8" + "000000ab" + "2abcdef0" + "000000000000"
	wantRecords(t, v, fmt.Sprintf("0: %s%x", fields, s[26:]))
}

// Clients that are dropped stand in it, rising, whether or not something of theirs rests; requests stand in it as they are drained, also those that are refused.
func TestRecord(t *testing.T) {
	v := newVenue(t, plainConfig)
	loginAll(t, v)
	for _, client := range []int{4, 0, 3} {
		sendAll(t, v, client, logout())
	}
	sendAll(t, v, 5, cancel(2, 8), order(0, api.Buy, 1000, 1000, 1), cancel(0, 1))
	sendAll(t, v, 2, order(1, api.Sell, 300, 7, 9))
	runBatch(v)
	first := fmt.Sprintf("0:0,3,4 %x %x %x", frame(t, 2, 2, order(1, api.Sell, 300, 7, 9)), frame(t, 5, 2, cancel(2, 8)), frame(t, 5, 3, order(0, api.Buy, 1000, 1000, 1)))
	wantRecords(t, v, first)
	runBatch(v)
	second := "1:1,2,5"
	wantRecords(t, v, first, second)
	sendAll(t, v, 5, login(), logout())
	runBatch(v)
	runBatch(v)
	wantRecords(t, v, first, second, "2:5", "3:")
}

// busyVenue: a venue in which something of each kind happens, up to so many ticks: what each tick told.
func busyVenue(t *testing.T, v *venue.Venue, n int) [][]api.Report {
	t.Helper()
	var all [][]api.Report
	for range n {
		for client := range 6 {
			id := 1 + v.Now()*6 + client
			switch {
			case v.Down():
			case !v.Session(client).On:
				send(t, v, client, login(), order(client%3, client%2, 100, 3, id))
			case client == 5 && v.Now()%7 == 6:
				send(t, v, client, logout())
			case client == 4:
			default:
				send(t, v, client, order((client+v.Now())%3, client%2, 99+v.Now()%3, 2+client, id), cancel(client%3, max(0, id-18)))
			}
		}
		all = append(all, v.Tick())
	}
	return all
}

// P124: wherever power is cut, what is told is of batches that are on the tape; and the venue is down, with all else as it was.
func TestCutAnywhere(t *testing.T) {
	const n = 13
	whole := newVenue(t, plainConfig)
	want := busyVenue(t, whole, n)
	if whole.Down() || whole.Batches() != 4 {
		t.Fatal("the venue without a cut is down")
	}
	bytes := whole.Tape().Bytes()
	for cut := range len(bytes) + 3 {
		v := newVenue(t, plainConfig)
		if err := v.Tape().Cut(cut); err != nil {
			t.Fatal(err)
		}
		got := busyVenue(t, v, n)
		if v.Tape().Bytes() != bytes[:min(cut, len(bytes))] {
			t.Fatalf("cut at %d: another tape", cut)
		}
		records, _ := tape.Read(v.Tape().Bytes())
		if v.Batches() != len(records) || v.Down() != (cut < len(bytes)) {
			t.Fatalf("cut at %d: %d records, %d batches, down %v", cut, len(records), v.Batches(), v.Down())
		}
		kept := 3*len(records) + 2 // the last tick of which something may be told
		if v.Down() && v.Now() != kept+1 {
			t.Fatalf("cut at %d: down at %d", cut, v.Now())
		}
		for k := range got {
			if k < kept && told(got[k]) != told(want[k]) || v.Down() && k >= kept && len(got[k]) > 0 {
				t.Fatalf("cut at %d: told %s by tick %d, want %s", cut, told(got[k]), k+1, told(want[k]))
			}
		}
	}
}

// A venue that is down stays so, and nothing of it moves any more.
func TestDownStays(t *testing.T) {
	for _, cut := range []int{0, 1, 11, 100} {
		downStays(t, cut)
	}
}

func downStays(t *testing.T, cut int) {
	t.Helper()
	v := newVenue(t, plainConfig)
	loginAll(t, v)
	sendAll(t, v, 0, order(0, api.Buy, 100, 1, 1))
	runBatch(v)
	beatAll(t, v)
	sendAll(t, v, 0, logout())
	sendAll(t, v, 1, order(0, api.Sell, 100, 1, 2), cancel(0, 2), cancel(0, 3))
	if err := v.Tape().Cut(cut); err != nil {
		t.Fatal(err)
	}
	// Whether power is there is no matter until a batch is to be written.
	wantTold(t, ticks(v, 2))
	if v.Down() || v.Now() != 5 {
		t.Errorf("down %v at %d", v.Down(), v.Now())
	}
	wantTold(t, v.Tick())
	if !v.Down() || v.Now() != 6 || v.Batches() != 1 {
		t.Errorf("down %v at %d, batches %d", v.Down(), v.Now(), v.Batches())
	}
	wantLots(t, v, 0, api.Lot{ID: 1, Owner: 0, Price: 100, Qty: 1})
	wantWait(t, v, 1, 1) // two were drained
	ahead := state(v)
	for range 20 {
		wantTold(t, v.Tick())
		for client := range 6 {
			wantTold(t, v.Feed(client, frame(t, client, 1, login())+strings.Repeat("x", 30)))
			wantTold(t, send(t, v, client, beat(), order(0, api.Buy, 1, 1, 9), logout()))
		}
	}
	if state(v) != ahead {
		t.Errorf("down, and moved from\n%sto\n%s", ahead, state(v))
	}
}

// A tape without room for the record of a batch: the venue is down, and nothing of the batch is told.
func TestTapeIsFull(t *testing.T) {
	v := newVenue(t, plainConfig)
	for range 2000 {
		if v.Down() {
			break
		}
		for client := range 6 {
			if !v.Session(client).On {
				sendAll(t, v, client, login())
			}
			sendAll(t, v, client, cancel(0, 1), cancel(0, 2))
		}
		batches := v.Batches()
		got := runBatch(v)
		if want := 12 * (v.Batches() - batches); len(got) != want {
			t.Fatalf("batch %d: told %d, want %d", batches, len(got), want)
		}
	}
	records, n := tape.Read(v.Tape().Bytes())
	room := 1<<20 - n
	if !v.Down() || len(records) != v.Batches() || n != len(v.Tape().Bytes()) || room < 0 || room >= len(records[len(records)-1])+12 {
		t.Errorf("down %v, with %d records, %d batches, room for %d bytes", v.Down(), len(records), v.Batches(), room)
	}
}
