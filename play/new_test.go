package play_test

import (
	"math"
	"testing"

	"gavelhouse/band"
	"gavelhouse/play"
	"gavelhouse/venue"
)

// Numbers of plays, and the seeds that their lowest 32 bits are.
var seeds = map[int]uint32{
	0: 0, 1: 1, 5: 5, 1<<32 - 1: math.MaxUint32, 1 << 32: 0, 1<<32 + 7: 7, 3<<40 + 1<<31: 1 << 31,
	-1: math.MaxUint32, -2: math.MaxUint32 - 1, -1 << 32: 0, -1<<32 + 9: 9, math.MinInt: 0, math.MaxInt: math.MaxUint32,
}

func TestConfig(t *testing.T) {
	for k, seed := range seeds {
		want := venue.Config{Seed: seed, Rule: band.Rule{Width: 10, Halt: 2}, Ref: 100, Cash: 20000, Stock: 100}
		if got := play.Config(k); got != want {
			t.Errorf("Config(%d) = %+v, want %+v", k, got, want)
		}
	}
}

func TestNewPlayer(t *testing.T) {
	for k := range seeds {
		v, err := venue.New(play.Config(k))
		if err != nil {
			t.Fatal(err)
		}
		if got, want := state(begin(t, k).Venue()), state(v); got != want {
			t.Errorf("New(%d) begins as\n%swant\n%s", k, got, want)
		}
	}
}

// drawn: who of four buyers gets the one piece that is sold, in each of some batches.
func drawn(t *testing.T, p *play.Player) string {
	t.Helper()
	script := loginAll()
	for range 10 {
		for c := range 4 {
			script = append(script, order(c, 0, 0, 100, 1))
		}
		script = append(script, order(4, 0, 1, 100, 1), beat(5), tick(), tick(), tick())
		for c := range 4 {
			script = append(script, beat(c))
		}
	}
	return told(p.Run(script))
}

// The seed of a play is its venue's: plays whose seeds are one draw alike, and others do not.
func TestSeeds(t *testing.T) {
	byDraw := map[string]uint32{}
	for k, seed := range seeds {
		s := drawn(t, begin(t, k))
		if other, is := byDraw[s]; is && other != seed {
			t.Errorf("play %d draws as seed %d does", k, other)
		}
		byDraw[s] = seed
	}
	if len(byDraw) != 8 {
		t.Errorf("%d ways to draw, of 8 seeds", len(byDraw))
	}
}

// Venue is its own: the same each time, no other player's; and what is done to it shows.
func TestOwn(t *testing.T) {
	p, other := begin(t, 3), begin(t, 3)
	v := p.Venue()
	if v == other.Venue() {
		t.Error("two players have one venue")
	}
	ahead := state(other.Venue())
	p.Run([]int{login(0), order(0, 1, 0, 95, 2), tick()})
	if p.Venue() != v || v.Now() != 1 || v.Wait(0) != 1 {
		t.Errorf("the venue is another one, or at %d with %d that wait", v.Now(), v.Wait(0))
	}
	if state(other.Venue()) != ahead {
		t.Errorf("another player's script made of\n%sthis:\n%s", ahead, state(other.Venue()))
	}
	v.Tick()
	wantTold(t, p.Run([]int{tick()}), "0 rests 1, 95 2, 0")
}
