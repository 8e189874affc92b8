package play_test

import (
	"math"
	"testing"

	"gavelhouse/api"
	"gavelhouse/band"
	"gavelhouse/play"
	"gavelhouse/purse"
	"gavelhouse/session"
)

// What is sent has the client's next number, whatever number it came with, as the steps of a script have.
func TestSend(t *testing.T) {
	p := begin(t, 0)
	wantTold(t, p.Send(api.Ask{Kind: api.Login, Client: 4, Seq: 9}))
	wantTold(t, p.Run([]int{beat(4)}))
	wantTold(t, p.Send(api.Ask{Kind: api.Place, Client: 4, Seq: 1, Item: 2, Side: api.Sell, Price: 1000, Qty: 7, ID: 1 << 30}), "4 accepted 1073741824, 0 0, 0")
	wantTold(t, p.Send(api.Ask{Kind: api.Cancel, Client: 4, Item: 1, ID: 0}), "4 accepted 0, 0 0, 0")
	wantSession(t, p, 4, session.Session{On: true, Next: 5})
	// An order that is sent is none of the script's, whose IDs count its own alone.
	wantTold(t, p.Run([]int{order(4, 0, 0, 95, 1)}), "4 accepted 4001, 0 0, 0")
	wantTold(t, p.Send(api.Ask{Kind: api.Logout, Client: 4}))
	wantTold(t, p.Send(api.Ask{Kind: api.Beat, Client: 4}), "4 refused 0, 0 0, 11")
}

// What no frame can tell is not fed.
func TestSendWrong(t *testing.T) {
	p := begin(t, 0)
	ahead := state(p.Venue())
	for _, c := range []int{-1, 6, 7, 256, 1 << 32, math.MinInt, math.MaxInt} {
		wantTold(t, p.Send(api.Ask{Kind: api.Login, Client: c}))
	}
	wantTold(t, p.Send(api.Ask{Kind: 'x', Client: 1}))
	wantTold(t, p.Send(api.Ask{Kind: api.Place, Client: 1}))
	if got := state(p.Venue()); got != ahead {
		t.Errorf("wrong requests made of\n%sthis:\n%s", ahead, got)
	}
}

// A player of a venue that is there plays on it, with numbers as in the beginning.
func TestNewOf(t *testing.T) {
	first := begin(t, 2)
	first.Run([]int{login(1), order(1, 0, 0, 95, 1), order(1, 0, 0, 96, 1), login(3), beat(3)})
	p := play.NewOf(first.Venue())
	if p.Venue() != first.Venue() {
		t.Fatal("the venue is another one")
	}
	wantTold(t, p.Run([]int{beat(3), beat(3)}), "3 refused 0, 0 0, 12", "3 refused 0, 0 0, 12")
	wantTold(t, p.Run([]int{beat(3)}))
	wantTold(t, p.Run([]int{order(1, 0, 0, 95, 1), beat(1), beat(1), order(1, 0, 0, 95, 1)}), "1 refused 1001, 0 0, 12", "1 refused 0, 0 0, 12", "1 refused 0, 0 0, 12", "1 accepted 1002, 0 0, 0")
}

func TestTexts(t *testing.T) {
	for _, c := range []struct{ got, want string }{
		{play.BandText(band.Band{Ref: 12, Left: 3}), "12 3"}, {play.BandText(band.Band{}), "0 0"},
		{play.LotText(api.Lot{ID: 1, Owner: 2, Side: 3, Price: 4, Qty: 5}), "1:2:3:4:5"},
		{play.HasText(purse.Has{Cash: 1, Held: 2, Stock: [3]int{3, 5, 7}, Kept: [3]int{4, 6, 8}}), "1 2 3 4 5 6 7 8"},
	} {
		if c.got != c.want {
			t.Errorf("%q, want %q", c.got, c.want)
		}
	}
}
