package recover_test

import (
	"testing"

	"gavelhouse/api"
	"gavelhouse/band"
	"gavelhouse/recover"
	"gavelhouse/venue"
)

func wantSame(t *testing.T, a, b *venue.Venue, want bool) {
	t.Helper()
	if recover.Same(a, b) != want || recover.Same(b, a) != want {
		t.Errorf("Same is %v and %v, want %v", recover.Same(a, b), recover.Same(b, a), want)
	}
}

func TestSameNil(t *testing.T) {
	v := newVenue(t, plainConfig)
	wantSame(t, nil, nil, true)
	wantSame(t, v, nil, false)
	wantSame(t, v, v, true)
	wantSame(t, v, &venue.Venue{}, false)
	wantSame(t, &venue.Venue{}, &venue.Venue{}, true)
}

// What a config begins with is seen in purses and bands; a seed and a rule are not, until they do something.
func TestSameConfig(t *testing.T) {
	v := newVenue(t, plainConfig)
	for _, x := range []struct {
		change func(c *venue.Config)
		want   bool
	}{
		{func(*venue.Config) {}, true},
		{func(c *venue.Config) { c.Seed = 8 }, true},
		{func(c *venue.Config) { c.Rule = band.Rule{Width: 11, Halt: 3} }, true},
		{func(c *venue.Config) { c.Ref = 101 }, false},
		{func(c *venue.Config) { c.Cash++ }, false},
		{func(c *venue.Config) { c.Stock++ }, false},
	} {
		c := plainConfig
		x.change(&c)
		wantSame(t, v, newVenue(t, c), x.want)
	}
}

// Each thing that counts, alone.
func TestSameCounts(t *testing.T) {
	for name, change := range map[string]func(v *venue.Venue) error{
		"cash":  func(v *venue.Venue) error { return v.Floor().Purse().Give(5, 1, [3]int{}) },
		"stock": func(v *venue.Venue) error { return v.Floor().Purse().Give(0, 0, [3]int{0, 0, 1}) },
		"a hold of cash": func(v *venue.Venue) error {
			return v.Floor().Purse().Hold(0, api.Lot{ID: 9, Owner: 3, Price: 1, Qty: 1})
		},
		"a hold of stock": func(v *venue.Venue) error {
			return v.Floor().Purse().Hold(1, api.Lot{ID: 9, Owner: 3, Side: 1, Price: 1, Qty: 1})
		},
		"a lot":        func(v *venue.Venue) error { return v.Floor().Book(2).Add(api.Lot{ID: 9, Price: 1, Qty: 1}) },
		"a lot less":   func(v *venue.Venue) error { _, err := v.Floor().Book(0).Cancel(2); return err },
		"a lesser lot": func(v *venue.Venue) error { return v.Floor().Book(0).Take(1, 1) },
		"the lots' order": func(v *venue.Venue) error {
			l, err := v.Floor().Book(0).Cancel(1)
			v.Floor().Book(0).Add(l)
			return err
		},
		"a lot's owner": func(v *venue.Venue) error {
			l, err := v.Floor().Book(0).Cancel(2)
			l.Owner = 4
			v.Floor().Book(0).Add(l)
			return err
		},
		"a band":           func(v *venue.Venue) error { return leap(v, 1) },
		"the last of them": func(v *venue.Venue) error { return leap(v, 2) },
	} {
		a, b := withLots(t), withLots(t)
		wantSame(t, a, b, true)
		if err := change(b); err != nil {
			t.Fatal(name, err)
		}
		if recover.Same(a, b) || recover.Same(b, a) {
			t.Errorf("%s does not count", name)
		}
	}
}

// withLots 1 and 2 in the first book, behind one batch.
func withLots(t *testing.T) *venue.Venue {
	t.Helper()
	v := newVenue(t, plainConfig)
	send(t, v, 0, login(), order(0, api.Buy, 50, 5, 1), order(0, api.Buy, 50, 5, 2))
	runBatch(v)
	return v
}

// leap of an item's price, halted: its band alone is another one behind it, as lots and holds are taken back.
func leap(v *venue.Venue, item int) error {
	f := v.Floor()
	lots := []api.Ask{of(1, 0, order(item, api.Buy, 500, 1, 8)), of(2, 0, order(item, api.Sell, 500, 1, 9))}
	for _, a := range lots {
		if err := f.Place(a); err != nil {
			return err
		}
	}
	if _, err := f.Run(item, 1); err != nil {
		return err
	}
	f.Drop(1)
	f.Drop(2)
	return nil
}

// Batches count, also where nothing else came of one.
func TestSameBatches(t *testing.T) {
	a, b := newVenue(t, plainConfig), newVenue(t, plainConfig)
	runBatch(b)
	wantSame(t, a, b, false)
	runBatch(a)
	wantSame(t, a, b, true)
}

// Ticks, sessions, what waits and the tape do not count.
func TestSameCountsNot(t *testing.T) {
	a, b := newVenue(t, plainConfig), newVenue(t, plainConfig)
	b.Tick()
	send(t, b, 2, login(), order(0, api.Buy, 1, 1, 1))
	b.Tape().Cut(0)
	wantSame(t, a, b, true)
	b.Tick()
	b.Tick()
	if !b.Down() {
		t.Error("not down")
	}
	wantSame(t, a, b, true)
}
