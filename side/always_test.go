package side_test

import (
	"fmt"
	"math/rand"
	"runtime"
	"sync"
	"testing"
	"time"

	"gavelhouse/api"
	"gavelhouse/clear"
	"gavelhouse/place"
	"gavelhouse/side"
)

// drawLots: some of the lists are not well, and some are long, so that workers are not done in the order in which they began.
func drawLots(r *rand.Rand, wrong int) []api.Lot {
	n := r.Intn(8)
	if r.Intn(4) == 0 {
		n = 60 + r.Intn(60)
	}
	var l []api.Lot
	for id := range n {
		l = append(l, api.Lot{ID: id + 1, Owner: r.Intn(6), Side: r.Intn(2), Price: 1 + r.Intn(1000), Qty: 1 + r.Intn(1000)})
	}
	if n > 0 && r.Intn(100) < wrong {
		switch x := &l[r.Intn(n)]; r.Intn(3) {
		case 0:
			x.Price = 0
		case 1:
			x.ID = n
		default:
			return many(121)
		}
	}
	return l
}

// onePriceAfterTheOther: what Prices is to answer.
func onePriceAfterTheOther(l [][]api.Lot, ref int) string {
	var prices []int
	for i, lots := range l {
		price, _, err := clear.Price(lots, ref)
		if err != nil {
			return fmt.Sprintf("%v at %d", place.Aside(err), i)
		}
		prices = append(prices, price)
	}
	return fmt.Sprint(prices)
}

func answered[A any](l []A, err error) string {
	if err == nil {
		return fmt.Sprint(l)
	}
	f, is := err.(*api.Fault)
	if !is || len(l) > 0 {
		return fmt.Sprintf("%v, %v", l, err)
	}
	return fmt.Sprintf("%v at %d", f.Err, f.At)
}

// P151: by however many, prices are the same, and so are their errors.
func TestPricesAlways(t *testing.T) {
	wrong := 0
	for seed := range 150 {
		r := rand.New(rand.NewSource(int64(seed)))
		l := make([][]api.Lot, r.Intn(101))
		for i := range l {
			l[i] = drawLots(r, seed%5)
		}
		ref := 1 + r.Intn(1000)
		want := onePriceAfterTheOther(l, ref)
		if want[0] != '[' {
			wrong++
		}
		for _, w := range counts() {
			if got := answered(side.Prices(l, ref, w)); got != want {
				t.Fatalf("seed %d, %d workers: %s, want %s", seed, w, got, want)
			}
		}
	}
	if wrong < 30 || wrong > 120 {
		t.Errorf("%d of 150 have an error", wrong)
	}
}

// drawScript: of requests and ticks, and of a length of its own.
func drawScript(r *rand.Rand) []int {
	var script []int
	for client := range 6 {
		script = append(script, number(client, 0, 0))
	}
	for range r.Intn(400) {
		script = append(script, r.Intn(30000))
	}
	return script
}

// P151: by however many, plays are the same.
func TestPlaysAlways(t *testing.T) {
	for seed := range 12 {
		r := rand.New(rand.NewSource(int64(seed)))
		scripts := make([][]int, r.Intn(41))
		want := []string{}
		for k := range scripts {
			scripts[k] = drawScript(r)
			want = append(want, sum(t, k, scripts[k]))
		}
		for _, w := range counts() {
			got, err := side.Plays(scripts, w)
			wantList(t, fmt.Sprintf("seed %d, %d workers", seed, w), got, err, want...)
		}
	}
}

// P2: calls beside each other do not see each other.
func TestBesideOthers(t *testing.T) {
	r := rand.New(rand.NewSource(5))
	l, scripts := make([][]api.Lot, 50), make([][]int, 10)
	for i := range l {
		l[i] = drawLots(r, 0)
	}
	for k := range scripts {
		scripts[k] = drawScript(r)
	}
	wantPrices := onePriceAfterTheOther(l, 400)
	wantPlays := answered(side.Plays(scripts, 1))
	var group sync.WaitGroup
	for _, w := range counts() {
		group.Go(func() {
			if got := answered(side.Prices(l, 400, w)); got != wantPrices {
				t.Errorf("%d workers: %s, want %s", w, got, wantPrices)
			}
		})
		group.Go(func() {
			if got := answered(side.Plays(scripts, w)); got != wantPlays {
				t.Errorf("%d workers: other plays", w)
			}
		})
	}
	group.Wait()
}

// Whoever works for a call is gone when it answers: lists are the caller's again.
func TestJoined(t *testing.T) {
	before := runtime.NumGoroutine()
	l := make([][]api.Lot, 100)
	for range 200 {
		for i := range l {
			l[i] = trade(1 + i)
		}
		l[3] = []api.Lot{{}}
		side.Prices(l, 9, 16)
		side.Prices(nil, 9, 16)
		for i := range l {
			// the race detector would see one who still reads
			l[i][0] = api.Lot{}
			l[i] = nil
		}
	}
	side.Plays([][]int{bought(), nil, bought()}, 16)
	// one that has said that it is done may still be on its way out
	for range 5000 {
		if runtime.NumGoroutine() <= before {
			return
		}
		time.Sleep(time.Millisecond)
	}
	t.Errorf("%d go on, ahead of the calls it were %d", runtime.NumGoroutine(), before)
}
