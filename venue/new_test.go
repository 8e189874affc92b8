package venue_test

import (
	"math"
	"testing"

	"gavelhouse/api"
	"gavelhouse/band"
	"gavelhouse/purse"
	"gavelhouse/session"
	"gavelhouse/venue"
)

func TestNewVenue(t *testing.T) {
	for _, c := range []venue.Config{
		plainConfig,
		{Rule: band.Rule{Width: 0, Halt: 1}, Ref: 1},
		{Seed: math.MaxUint32, Rule: band.Rule{Width: 100, Halt: 1000}, Ref: 1000, Cash: 1 << 30, Stock: 100000},
	} {
		v := newVenue(t, c)
		if v.Now() != 0 || v.Batches() != 0 || v.Down() {
			t.Errorf("%+v begins at %d, batch %d, down %v", c, v.Now(), v.Batches(), v.Down())
		}
		if v.Tape() == nil || v.Tape().Bytes() != "" || !v.Tape().Power() {
			t.Errorf("%+v begins with another tape than an empty one", c)
		}
		for item := range 3 {
			wantLots(t, v, item)
			if b := v.Floor().Band(item); b != (band.Band{Ref: c.Ref}) {
				t.Errorf("%+v begins with band %v", c, b)
			}
		}
		for client := range 6 {
			has := purse.Has{Cash: c.Cash, Stock: [3]int{c.Stock, c.Stock, c.Stock}}
			if v.Floor().Purse().Of(client) != has || v.Session(client) != (session.Session{}) || v.Wait(client) != 0 {
				t.Errorf("%+v begins with client %d as %v, %v, %d", c, client, v.Floor().Purse().Of(client), v.Session(client), v.Wait(client))
			}
		}
	}
}

func TestNewVenueRefused(t *testing.T) {
	for _, change := range []func(c *venue.Config){
		func(c *venue.Config) { *c = venue.Config{} },
		func(c *venue.Config) { c.Rule.Width = -1 },
		func(c *venue.Config) { c.Rule.Width = 101 },
		func(c *venue.Config) { c.Rule.Halt = 0 },
		func(c *venue.Config) { c.Rule.Halt = 1001 },
		func(c *venue.Config) { c.Ref = 0 },
		func(c *venue.Config) { c.Ref = 1001 },
		func(c *venue.Config) { c.Cash = -1 },
		func(c *venue.Config) { c.Cash = 1<<30 + 1 },
		func(c *venue.Config) { c.Stock = -1 },
		func(c *venue.Config) { c.Stock = 100001 },
		func(c *venue.Config) { c.Ref, c.Cash, c.Stock = math.MinInt, math.MaxInt, math.MaxInt },
	} {
		c := plainConfig
		change(&c)
		if v, err := venue.New(c); v != nil || err != api.ErrBound {
			t.Errorf("New(%+v) = %v, %v", c, v, err)
		}
	}
}

// Floor and Tape are its own: the same each time, and no other venue's.
func TestOwn(t *testing.T) {
	v, other := newVenue(t, plainConfig), newVenue(t, plainConfig)
	if v.Floor() != v.Floor() || v.Tape() != v.Tape() || v.Floor() == other.Floor() || v.Tape() == other.Tape() {
		t.Error("a floor or a tape is not its own")
	}
	ahead := state(other)
	sendAll(t, v, 0, login(), order(0, api.Buy, 99, 1, 1))
	runBatch(v)
	if state(other) != ahead {
		t.Errorf("another venue's requests changed it: %s", state(other))
	}
}

func TestNoSuchClient(t *testing.T) {
	v := newVenue(t, plainConfig)
	loginAll(t, v)
	for client := range 6 {
		sendAll(t, v, client, order(0, api.Buy, 99, 1, 1))
	}
	ahead := state(v)
	for _, n := range strange {
		if v.Session(n) != (session.Session{}) || v.Wait(n) != 0 {
			t.Errorf("client %d: %v, %d wait", n, v.Session(n), v.Wait(n))
		}
		for client := range 6 {
			wantTold(t, v.Feed(n, frames(t, client, 3, beat(), order(0, api.Buy, 99, 1, 2), logout())))
		}
		wantTold(t, v.Feed(n, "some bytes that are no frame, and more than one has"))
	}
	if state(v) != ahead {
		t.Errorf("bytes of no client made of\n%sthis:\n%s", ahead, state(v))
	}
}
