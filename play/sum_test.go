package play_test

import (
	"math/rand"
	"strings"
	"testing"

	"gavelhouse/api"
	"gavelhouse/band"
	"gavelhouse/play"
	"gavelhouse/venue"
)

const untouched = "20000 0 100 0 100 0 100 0"

func TestSumOfNothing(t *testing.T) {
	for _, v := range []*venue.Venue{nil, {}} {
		if s := play.Sum(v); s != "" {
			t.Errorf("Sum(%v) = %q", v, s)
		}
	}
}

func TestSumOfNew(t *testing.T) {
	wantSum(t, begin(t, 9).Venue(), "100 0", "100 0", "100 0", untouched, untouched, untouched, untouched, untouched, untouched)
	v, err := venue.New(venue.Config{Seed: 1, Rule: band.Rule{Width: 0, Halt: 1}, Ref: 1000, Cash: 1 << 30, Stock: 0})
	if err != nil {
		t.Fatal(err)
	}
	if got, want := play.Sum(v), strings.Repeat("1000 0\n", 3)+strings.Repeat("1073741824 0 0 0 0 0 0 0\n", 6); got != want {
		t.Errorf("sum is\n%swant\n%s", got, want)
	}
}

// What rests, what is held for it and what was traded, each where it belongs.
func TestSumOfPlay(t *testing.T) {
	p := begin(t, 0)
	p.Run(loginAll())
	p.Run([]int{order(0, 0, 0, 91, 2), order(0, 2, 1, 109, 9), order(3, 1, 0, 92, 1), order(3, 1, 0, 93, 3), order(5, 1, 1, 108, 4)})
	wantSum(t, p.Venue(), "100 0", "100 0", "100 0", untouched, untouched, untouched, untouched, untouched, untouched)
	p.Run([]int{tick(), tick(), tick()})
	wantSum(t, p.Venue(),
		"100 0 1:0:0:91:2", "100 0 3001:3:0:92:1 3002:3:0:93:3 5001:5:1:108:4", "100 0 2:0:1:109:9",
		"20000 182 100 0 100 0 100 9", untouched, untouched, "20000 371 100 0 100 0 100 0", untouched, "20000 0 100 0 100 4 100 0")
	p.Run([]int{beat(0), beat(3), beat(5), order(5, 0, 1, 90, 7), order(2, 1, 1, 92, 4), beat(1), beat(4), tick(), tick(), tick()})
	// Of item 0 as little is left at 90 as at 91, and 91 is nearer to 100; of item 1 all four are bought at 92 alone.
	wantSum(t, p.Venue(),
		"91 0 5002:5:1:90:5", "92 0 5001:5:1:108:4", "100 0 2:0:1:109:9",
		"19818 0 102 0 100 0 100 9", untouched, "20368 0 100 0 96 0 100 0", "19632 0 100 0 104 0 100 0", untouched, "20182 0 98 5 100 4 100 0")
}

// A halt shows; lots stand in the order in which they came, which is that of turns.
func TestSumOfHalt(t *testing.T) {
	p := begin(t, 0)
	p.Run([]int{login(0), login(1), order(0, 1, 0, 90, 1), order(1, 1, 1, 90, 1), tick(), tick(), tick()})
	p.Run([]int{order(0, 1, 0, 109, 1), order(1, 1, 1, 109, 1), tick(), tick(), tick()})
	tail := []string{untouched, untouched, untouched, untouched}
	wantSum(t, p.Venue(), append([]string{"100 0", "90 2 1002:1:1:109:1 2:0:0:109:1", "100 0", "19910 109 100 0 101 0 100 0", "20090 0 100 0 99 1 100 0"}, tail...)...)
	p.Run([]int{beat(0), beat(1), tick(), tick(), tick()})
	wantSum(t, p.Venue(), append([]string{"100 0", "90 1 1002:1:1:109:1 2:0:0:109:1", "100 0", "19910 109 100 0 101 0 100 0", "20090 0 100 0 99 1 100 0"}, tail...)...)
}

// Whatever was played, a sum is as the document spells it, and making it changes nothing.
func TestSumAlways(t *testing.T) {
	for k := range 30 {
		p := begin(t, k)
		r := rand.New(rand.NewSource(int64(k)))
		for range 20 {
			p.Run(draw(r, 60))
			v := p.Venue()
			ahead := state(v)
			if got, want := play.Sum(v), written(v); got != want {
				t.Fatalf("play %d: sum is\n%swant\n%s", k, got, want)
			}
			if state(v) != ahead {
				t.Fatalf("play %d: the sum made of\n%sthis:\n%s", k, ahead, state(v))
			}
		}
	}
}

// A sum looks at the floor alone: sessions and what waits do not show.
func TestSumOfFloor(t *testing.T) {
	p := begin(t, 0)
	ahead := play.Sum(p.Venue())
	p.Run(append(loginAll(), order(1, 1, api.Buy, 99, 3), order(2, 1, api.Sell, 91, 3), tick(), tick()))
	if got := play.Sum(p.Venue()); got != ahead {
		t.Errorf("sum is\n%swant\n%s", got, ahead)
	}
	p.Run([]int{tick()})
	if got := play.Sum(p.Venue()); got == ahead {
		t.Error("a trade does not show")
	}
}
