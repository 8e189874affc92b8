package recover_test

import (
	"fmt"
	"strings"
	"testing"

	"gavelhouse/api"
	"gavelhouse/band"
	"gavelhouse/recover"
	"gavelhouse/session"
	"gavelhouse/tape"
	"gavelhouse/venue"
)

// open a tape again: what P131 says of each venue that goes on holds of it.
func open(t *testing.T, c venue.Config, d *tape.Disk) *venue.Venue {
	t.Helper()
	records, n := tape.Read(d.Bytes())
	whole := d.Bytes()[:n]
	v, err := recover.Open(c, d)
	if err != nil || v == nil {
		t.Fatalf("Open: %v, %v", v, err)
	}
	if v.Batches() != len(records) || v.Now() != 3*len(records) || v.Down() {
		t.Fatalf("%d records: batches %d, now %d, down %v", len(records), v.Batches(), v.Now(), v.Down())
	}
	if v.Tape() != d || d.Bytes() != whole || !d.Power() {
		t.Fatalf("its tape is its own %v, has %d bytes of %d, power %v", v.Tape() == d, len(d.Bytes()), n, d.Power())
	}
	for client := range 6 {
		if v.Session(client) != (session.Session{}) || v.Wait(client) != 0 {
			t.Fatalf("client %d: %v, %d wait", client, v.Session(client), v.Wait(client))
		}
	}
	return v
}

func TestOpenNothing(t *testing.T) {
	off := diskOf(t, "")
	off.Cut(0)
	for _, d := range []*tape.Disk{diskOf(t, ""), {}, off, diskOf(t, "some bytes that are no record"), diskOf(t, strings.Repeat("\x00", 1<<20))} {
		v := open(t, plainConfig, d)
		if want := floorOf(newVenue(t, plainConfig)); floorOf(v) != want {
			t.Errorf("opened is\n%swant\n%s", floorOf(v), want)
		}
		wantTold(t, runBatch(v))
		if l, _ := tape.Read(d.Bytes()); fmt.Sprint(l) != "[0:]" {
			t.Errorf("on the tape: %q", l)
		}
	}
}

// A record that is spelt out: drops come ahead of requests, and what is refused is refused again.
func TestOpenRecords(t *testing.T) {
	d := diskWith(t,
		written(t, 0, nil, []api.Ask{of(0, 2, order(0, api.Buy, 50, 2, 1)), of(0, 3, order(1, api.Sell, 300, 4, 2)), of(3, 2, order(0, api.Buy, 1000, 1000, 3))}),
		written(t, 1, []int{0, 4}, []api.Ask{of(0, 2, order(0, api.Buy, 60, 3, 1)), of(2, 9, cancel(0, 1)), of(2, 10, order(0, api.Sell, 60, 1, 5))}),
		written(t, 2, nil, []api.Ask{of(1, 2, order(2, api.Buy, 104, 5, 1)), of(3, 2, order(2, api.Sell, 98, 4, 2))}),
	)
	v := open(t, plainConfig, d)
	f := v.Floor()
	for item, want := range []string{"[{1 0 0 60 3} {5 2 1 60 1}]", "[]", "[{1 1 0 104 1}]"} {
		if got := fmt.Sprint(f.Book(item).Lots()); got != want {
			t.Errorf("in the book of item %d: %s, want %s", item, got, want)
		}
	}
	for item, want := range []band.Band{{Ref: 100, Left: 1}, {Ref: 100}, {Ref: 100}} {
		if got := f.Band(item); got != want {
			t.Errorf("band of item %d: %v, want %v", item, got, want)
		}
	}
	for client, want := range []string{"{20000 180 [100 100 100] [0 0 0]}", "{19600 104 [100 100 104] [0 0 0]}", "{20000 0 [100 100 100] [1 0 0]}", "{20400 0 [100 100 96] [0 0 0]}"} {
		if got := fmt.Sprint(f.Purse().Of(client)); got != want {
			t.Errorf("client %d has %s, want %s", client, got, want)
		}
	}
}

// Requests that never wait, as a venue never writes them: they ask the floor for nothing.
func TestOpenOtherKinds(t *testing.T) {
	d := diskWith(t, written(t, 0, nil, []api.Ask{of(0, 1, login()), of(0, 2, order(0, api.Buy, 50, 1, 1)), of(0, 3, beat()), of(0, 4, logout())}))
	v := open(t, plainConfig, d)
	if got := fmt.Sprint(v.Floor().Book(0).Lots()); got != "[{1 0 0 50 1}]" {
		t.Errorf("in the book: %s", got)
	}
	wantTold(t, runBatch(v))
}

// wantFault, and that all of the tape is as it was.
func wantFault(t *testing.T, c venue.Config, d *tape.Disk, at int, want error) {
	t.Helper()
	bytes, power := d.Bytes(), d.Power()
	v, err := recover.Open(c, d)
	f, is := err.(*api.Fault)
	if v != nil || !is || f.At != at || f.Err != want {
		t.Errorf("Open = %v, %#v, want a fault at %d: %v", v, err, at, want)
	}
	if d.Bytes() != bytes || d.Power() != power {
		t.Errorf("refused, and changed from %q, %v to %q, %v", bytes, power, d.Bytes(), d.Power())
	}
}

func TestOpenRefused(t *testing.T) {
	good := frame(t, of(3, 2, order(0, api.Buy, 99, 1, 77)))
	for _, x := range []struct {
		err  error
		text string
	}{
		{api.ErrText, "%d"},
		{api.ErrText, "0%d:"},
		{api.ErrText, "%d:6"},
		{api.ErrText, "%d:1,1"},
		{api.ErrText, "%d: 00"},
		{api.ErrText, "%d: "},
		{api.ErrSum, fmt.Sprintf("%%d: %x", good[:29]+"x")},
		{api.ErrShape, fmt.Sprintf("%%d: %x", changed(good, 20, 1))},
		{api.ErrKind, fmt.Sprintf("%%d: %x", changed(good, 0, 'x'))},
		{api.ErrBound, fmt.Sprintf("%%d: %x", changed(good, 1, 6))},
		{api.ErrOrder, "1%d:"},
		{api.ErrOrder, fmt.Sprintf("99%%d:0,1 %x", good)},
	} {
		for at := range 4 {
			var records []string
			for n := range at {
				records = append(records, fmt.Sprintf("%d:", n))
			}
			records = append(records, fmt.Sprintf(x.text, at))
			wantFault(t, plainConfig, diskWith(t, records...), at, x.err)
			records = append(records, "x", fmt.Sprintf("%d:", at+2), "")
			wantFault(t, plainConfig, diskWith(t, records...), at, x.err)
			// Another number is told behind what Read says.
			if x.err != api.ErrOrder {
				records[at] = fmt.Sprintf(x.text, at+1)
				wantFault(t, plainConfig, diskWith(t, records...), at, x.err)
			}
		}
	}
	wantFault(t, plainConfig, diskWith(t, "0:", "0:"), 1, api.ErrOrder)
	wantFault(t, plainConfig, diskWith(t, "0:", "2:", "1:"), 1, api.ErrOrder)
	wantFault(t, plainConfig, diskWith(t, "0:", "1:", ""), 2, api.ErrText)
}

// A tape that is refused keeps what stands behind its records, and its power stays off.
func TestOpenRefusedStays(t *testing.T) {
	for _, cut := range []int{0, 5} {
		d := diskWith(t, "0:", "x")
		d.Cut(cut)
		if err := tape.Append(d, "2:"); err != api.ErrOff {
			t.Fatal(err)
		}
		wantFault(t, plainConfig, d, 1, api.ErrText)
		d = diskWith(t, "0:")
		d.Cut(cut)
		tape.Append(d, "1:")
		bad := plainConfig
		bad.Ref = 0
		bytes := d.Bytes()
		if v, err := recover.Open(bad, d); v != nil || err != api.ErrBound || d.Bytes() != bytes || d.Power() {
			t.Errorf("Open = %v, %v, with power %v, %q", v, err, d.Power(), d.Bytes())
		}
		if v := open(t, plainConfig, d); v.Batches() != 1 {
			t.Errorf("batches %d", v.Batches())
		}
	}
}

// A tape that is none is told ahead of a config, and a config ahead of records.
func TestOpenOrder(t *testing.T) {
	for _, change := range []func(c *venue.Config){
		func(c *venue.Config) { *c = venue.Config{} },
		func(c *venue.Config) { c.Rule.Width = 101 },
		func(c *venue.Config) { c.Rule.Halt = 0 },
		func(c *venue.Config) { c.Ref = 1001 },
		func(c *venue.Config) { c.Cash = -1 },
		func(c *venue.Config) { c.Stock = 100001 },
	} {
		c := plainConfig
		change(&c)
		if v, err := recover.Open(c, nil); v != nil || err != api.ErrShape {
			t.Errorf("Open(%+v, nil) = %v, %v", c, v, err)
		}
		for _, d := range []*tape.Disk{diskOf(t, ""), diskWith(t, "0:"), diskWith(t, "x"), diskWith(t, "1:")} {
			if v, err := recover.Open(c, d); v != nil || err != api.ErrBound {
				t.Errorf("Open(%+v) = %v, %v", c, v, err)
			}
		}
	}
	if v, err := recover.Open(plainConfig, nil); v != nil || err != api.ErrShape {
		t.Errorf("Open without a tape = %v, %v", v, err)
	}
}

// A record that is damaged, and all behind it, are none.
func TestOpenDamaged(t *testing.T) {
	whole := diskWith(t, "0:", "1:0", "2:").Bytes()
	ends := []int{14, 29, 43}
	for at := range len(whole) {
		b := []byte(whole)
		b[at] ^= 4
		d := diskOf(t, string(b))
		want := 0
		for want < 3 && ends[want] <= at {
			want++
		}
		if v := open(t, plainConfig, d); v.Batches() != want {
			t.Errorf("byte %d is another one: batches %d, want %d", at, v.Batches(), want)
		}
	}
}

// A cut that waits is none any more.
func TestOpenCutWaits(t *testing.T) {
	d := diskWith(t, "0:")
	d.Cut(3)
	v := open(t, plainConfig, d)
	for range 5 {
		runBatch(v)
	}
	if v.Down() || v.Batches() != 6 {
		t.Errorf("down %v, batches %d", v.Down(), v.Batches())
	}
}

// Whose turn it is first hangs on how many batches there were.
func TestOpenTurn(t *testing.T) {
	for many := range 14 {
		v := newVenue(t, plainConfig)
		for range many {
			runBatch(v)
		}
		v = open(t, plainConfig, v.Tape())
		var want []string
		for client := range 6 {
			send(t, v, client, login(), order(0, api.Buy, 10, 1, 1+client))
		}
		for n := range 6 {
			client := (many + n) % 6
			want = append(want, fmt.Sprintf("%d rests %d, 10 1, 0", client, 1+client))
		}
		wantTold(t, runBatch(v), want...)
	}
}

// Who was to be dropped with a batch that is not on the tape is not: its session is off, and its lots rest.
func TestOpenForgetsWhoLeft(t *testing.T) {
	v := newVenue(t, plainConfig)
	send(t, v, 2, login(), order(0, api.Buy, 10, 1, 1))
	runBatch(v)
	send(t, v, 2, order(0, api.Buy, 10, 1, 2), logout())
	w := open(t, plainConfig, v.Tape())
	wantTold(t, runBatch(w))
	if got := fmt.Sprint(w.Floor().Book(0).Lots()); got != "[{1 2 0 10 1}]" {
		t.Errorf("in the book: %s", got)
	}
	send(t, w, 2, login(), cancel(0, 1))
	wantTold(t, runBatch(w), "2 gone 1, 10 1, 0")
}

// Bytes of a frame that was not whole are forgotten.
func TestOpenForgetsBytes(t *testing.T) {
	v := newVenue(t, plainConfig)
	v.Feed(1, frame(t, of(1, 1, login()))[:17])
	runBatch(v)
	w := open(t, plainConfig, v.Tape())
	wantTold(t, send(t, w, 1, login(), order(0, api.Buy, 10, 1, 2)), "1 accepted 2, 0 0, 0")
}

// A tape as full as can be: it is opened, and without room for one more batch the venue is down.
func TestOpenFull(t *testing.T) {
	d := diskOf(t, "")
	many := 0
	for tape.Append(d, fmt.Sprintf("%d:", many)) == nil {
		many++
	}
	v := open(t, plainConfig, d)
	if v.Batches() != many || many < 50000 {
		t.Errorf("batches %d, want %d", v.Batches(), many)
	}
	runBatch(v)
	if !v.Down() || v.Batches() != many {
		t.Errorf("down %v, batches %d", v.Down(), v.Batches())
	}
}
