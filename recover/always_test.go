package recover_test

import (
	"fmt"
	"math/rand"
	"testing"

	"gavelhouse/api"
	"gavelhouse/band"
	"gavelhouse/recover"
	"gavelhouse/tape"
	"gavelhouse/venue"
)

// requests of a client for one batch, at most two that wait, and no word that ends a session.
func requests(r *rand.Rand, v *venue.Venue, client int) []api.Ask {
	l := []api.Ask{beat()}
	for range r.Intn(3) {
		item := r.Intn(3)
		price := 94 + r.Intn(13)
		if r.Intn(15) == 0 {
			price = 60 + r.Intn(80)
		}
		lots := v.Floor().Book(item).Lots()
		if len(lots) > 0 && r.Intn(4) == 0 {
			l = append(l, cancel(item, lots[r.Intn(len(lots))].ID))
			continue
		}
		l = append(l, order(item, r.Intn(2), price, 1+r.Intn(6), 1+r.Intn(60)))
	}
	return l
}

// live venue: all clients are on, and all that waits is drained, so that behind a batch one that goes on is as it is, once all have logged in.
func live(t *testing.T, r *rand.Rand, v *venue.Venue) []api.Report {
	t.Helper()
	for client := range 6 {
		if !v.Session(client).On {
			send(t, v, client, login())
		}
		send(t, v, client, requests(r, v, client)...)
	}
	return runBatch(v)
}

// P133: wherever power is cut, a venue that goes on is as the one ahead of the cut was behind its last batch; and it goes on as that one does.
func TestCutAnywhere(t *testing.T) {
	const many = 6
	play := func(v *venue.Venue) []string {
		r := rand.New(rand.NewSource(5))
		floors := []string{floorOf(v)}
		for range many {
			live(t, r, v)
			floors = append(floors, floorOf(v))
		}
		return floors
	}
	whole := newVenue(t, plainConfig)
	floors := play(whole)
	bytes := whole.Tape().Bytes()
	for cut := range len(bytes) + 2 {
		v := newVenue(t, plainConfig)
		v.Tape().Cut(cut)
		play(v)
		records, _ := tape.Read(bytes[:min(cut, len(bytes))])
		w := open(t, plainConfig, v.Tape())
		if floorOf(w) != floors[len(records)] || floorOf(v) != floorOf(w) || !recover.Same(v, w) {
			t.Fatalf("cut at %d: goes on as\n%swant\n%s", cut, floorOf(w), floors[len(records)])
		}
		again := open(t, plainConfig, diskOf(t, w.Tape().Bytes()))
		if floorOf(again) != floorOf(w) || !recover.Same(again, w) {
			t.Fatalf("cut at %d: opened once more, it is another one", cut)
		}
	}
}

// What is behind a recovery is not to be told from what would have been without one: prices, draws, turns, halts.
func TestGoesOnAlike(t *testing.T) {
	seen := map[string]int{}
	for k := range 40 {
		r := rand.New(rand.NewSource(int64(k)))
		c := venue.Config{Seed: r.Uint32(), Rule: band.Rule{Width: 2 + r.Intn(9), Halt: 1 + r.Intn(3)}, Ref: 100, Cash: 4000, Stock: 40}
		v := newVenue(t, c)
		for range r.Intn(25) {
			live(t, r, v)
		}
		w := open(t, c, diskOf(t, v.Tape().Bytes()))
		seed := r.Int63()
		one, other := rand.New(rand.NewSource(seed)), rand.New(rand.NewSource(seed))
		for range 15 {
			got, want := told(live(t, one, w)), told(live(t, other, v))
			if got != want || floorOf(v) != floorOf(w) || v.Now() != w.Now() || !recover.Same(v, w) {
				t.Fatalf("play %d: told %s, want %s; is\n%swant\n%s", k, got, want, floorOf(w), floorOf(v))
			}
			for item := range 3 {
				seen[fmt.Sprint("halted ", v.Floor().Band(item).Left > 0)]++
			}
		}
	}
	if seen["halted true"] < 100 || seen["halted false"] < 100 {
		t.Errorf("seen: %v", seen)
	}
}

// wild play of one tick: silence, logouts, more than can be drained, bytes that are no frame.
func wild(t *testing.T, r *rand.Rand, v *venue.Venue) {
	t.Helper()
	for client := range 6 {
		switch {
		case r.Intn(4) == 0:
		case !v.Session(client).On:
			send(t, v, client, login())
		case r.Intn(40) == 0:
			send(t, v, client, logout())
		case r.Intn(100) == 0:
			v.Feed(client, "a piece of bytes")
		default:
			send(t, v, client, requests(r, v, client)...)
		}
	}
}

// P133, over and over on one tape: cut, opened, and cut again.
func TestCutOverAndOver(t *testing.T) {
	for k := range 30 {
		r := rand.New(rand.NewSource(int64(100 + k)))
		c := venue.Config{Seed: r.Uint32(), Rule: band.Rule{Width: 2 + r.Intn(9), Halt: 1 + r.Intn(2)}, Ref: 100, Cash: 4000, Stock: 40}
		d := diskOf(t, "")
		last := floorOf(newVenue(t, c)) // behind the last batch that could be told of
		for range 12 {
			v := open(t, c, d)
			if floorOf(v) != last {
				t.Fatalf("play %d: goes on as\n%swant\n%s", k, floorOf(v), last)
			}
			d.Cut(1 + r.Intn(4000))
			for range 40 {
				batches := v.Batches()
				wild(t, r, v)
				if l := v.Tick(); len(l) > 0 && v.Batches() == batches {
					t.Fatalf("play %d: told %s of no batch", k, told(l))
				}
				last = floorOf(v)
			}
		}
		if n := open(t, c, d).Batches(); n < 20 {
			t.Errorf("play %d: %d batches alone", k, n)
		}
	}
}

// P2: the same tape makes the same venue; another seed may make another one.
func TestOpenSameAgain(t *testing.T) {
	v := newVenue(t, plainConfig)
	r := rand.New(rand.NewSource(3))
	for range 20 {
		live(t, r, v)
	}
	for range 5 {
		if w := open(t, plainConfig, diskOf(t, v.Tape().Bytes())); floorOf(w) != floorOf(v) {
			t.Fatalf("opened is\n%swant\n%s", floorOf(w), floorOf(v))
		}
	}
	c := plainConfig
	c.Seed++
	if w := open(t, c, diskOf(t, v.Tape().Bytes())); recover.Same(v, w) {
		t.Error("another seed draws the same")
	}
}
