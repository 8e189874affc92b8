package intake_test

import (
	"math/rand"
	"slices"
	"testing"

	"gavelhouse/api"
	"gavelhouse/intake"
)

// line: an intake by the words of the document, made without the program: one row of all that wait, in the order in which they came.
type line struct {
	asks   []api.Ask
	drains int
}

func (l *line) wait(client int) int {
	n := 0
	for _, a := range l.asks {
		if a.Client == client {
			n++
		}
	}
	return n
}

func (l *line) put(a api.Ask) error {
	switch {
	case a.Kind != 'o' && a.Kind != 'c':
		return api.ErrKind
	case a.Client < 0 || a.Client > 5:
		return api.ErrBound
	case l.wait(a.Client) == 6:
		return api.ErrFull
	}
	l.asks = append(l.asks, a)
	return nil
}

// take the first of a client, as many as there are up to most.
func (l *line) take(client, most int) []api.Ask {
	var taken, rest []api.Ask
	for _, a := range l.asks {
		if a.Client == client && len(taken) < most {
			taken = append(taken, a)
		} else {
			rest = append(rest, a)
		}
	}
	l.asks = rest
	return taken
}

func (l *line) drain() []api.Ask {
	var drained []api.Ask
	for n := range 6 {
		drained = append(drained, l.take((l.drains+n)%6, 2)...)
	}
	l.drains++
	return drained
}

// draw a request: mostly one that is taken, if there is room.
func draw(r *rand.Rand, id int) api.Ask {
	kinds := []byte{api.Place, api.Cancel, api.Place, api.Cancel, api.Place, api.Cancel, api.Beat, 0}
	return api.Ask{Kind: kinds[r.Intn(len(kinds))], Client: r.Intn(8) - 1, Seq: r.Intn(9), Item: r.Intn(3), Price: r.Intn(5), ID: id}
}

// Any row of calls answers as the line does.
func TestIntakeAgainstLine(t *testing.T) {
	seen := map[error]int{}
	for seed := range 200 {
		r := rand.New(rand.NewSource(int64(seed)))
		i, l := intake.New(), &line{}
		every := 8 + r.Intn(40)
		for id := range 400 {
			switch n := r.Intn(every); {
			case n == 0:
				wantDrain(t, i, l.drain())
			case n == 1 && r.Intn(3) == 0:
				client := r.Intn(8) - 1
				if got, want := i.Clear(client), len(l.take(client, 6)); got != want {
					t.Fatalf("seed %d: %d went, want %d", seed, got, want)
				}
			default:
				a := draw(r, id)
				want := l.put(a)
				seen[want]++
				wantPut(t, i, a, want)
			}
			for client := -1; client < 7; client++ {
				if got, want := i.Wait(client), l.wait(client); got != want {
					t.Fatalf("seed %d: %d of client %d wait, want %d", seed, got, client, want)
				}
			}
			if i.Turn() != l.drains%6 || t.Failed() {
				t.Fatalf("seed %d: turn %d behind %d drains", seed, i.Turn(), l.drains)
			}
		}
	}
	for _, err := range []error{nil, api.ErrKind, api.ErrBound, api.ErrFull} {
		if seen[err] < 1000 {
			t.Errorf("too little was drawn of %v: %d", err, seen[err])
		}
	}
}

// P112: who waits behind n others of its own is drained within n over Quota and one drains, whatever others put.
func TestDrainedInTime(t *testing.T) {
	behind := map[int]int{} // how many were put behind so many of their own
	for seed := range 100 {
		r := rand.New(rand.NewSource(int64(seed)))
		i := intake.New()
		due := map[int]int{} // by ID: the last drain that may bring it
		drains := 0
		for id := range 1000 {
			if r.Intn(15) > 0 {
				client := r.Intn(6)
				n := i.Wait(client)
				if i.Put(cancel(client, id)) == nil {
					due[id] = drains + n/2 + 1
					behind[n]++
				}
				continue
			}
			drains++
			for _, a := range i.Drain() {
				delete(due, a.ID)
			}
			for id, last := range due {
				if last <= drains {
					t.Fatalf("seed %d: %d still waits behind drain %d, was due at %d", seed, id, drains, last)
				}
			}
		}
	}
	for n := range 6 {
		if behind[n] < 100 {
			t.Errorf("too little was drawn behind %d: %d", n, behind[n])
		}
	}
}

// P112: nobody else makes it longer: what is drained of a client, by which drain, is the same if it is alone and among others.
func TestOthersDoNotDelay(t *testing.T) {
	for seed := range 100 {
		r := rand.New(rand.NewSource(int64(seed)))
		alone, among := intake.New(), intake.New()
		client := r.Intn(6)
		for id := range 500 {
			switch n := r.Intn(30); {
			case n == 0:
				got := among.Drain()
				got = slices.DeleteFunc(got, func(a api.Ask) bool { return a.Client != client })
				if want := alone.Drain(); !slices.Equal(got, want) {
					t.Fatalf("seed %d: among others %+v, alone %+v", seed, got, want)
				}
			case n < 6:
				if a, b := alone.Put(cancel(client, id)), among.Put(cancel(client, id)); a != b {
					t.Fatalf("seed %d: alone %v, among others %v", seed, a, b)
				}
			case n == 6:
				among.Clear((client + 1 + r.Intn(5)) % 6)
			default:
				among.Put(cancel((client+1+r.Intn(5))%6, id))
			}
			if alone.Wait(client) != among.Wait(client) {
				t.Fatalf("seed %d: alone %d wait, among others %d", seed, alone.Wait(client), among.Wait(client))
			}
		}
	}
}
