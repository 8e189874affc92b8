package venue_test

import (
	"fmt"
	"strings"
	"testing"

	"gavelhouse/api"
	"gavelhouse/four"
	"gavelhouse/session"
	"gavelhouse/venue"
	"gavelhouse/wire"
)

// sealed: 26 bytes, and their sum, which is right.
func sealed(b []byte) string { return string(four.AppendLow(b, wire.Sum(string(b)))) }

// changed frame, whose sum is right all the same.
func changed(frame string, at int, to byte) string {
	b := []byte(frame[:26])
	b[at] = to
	return sealed(b)
}

func wantSession(t *testing.T, v *venue.Venue, client int, want session.Session) {
	t.Helper()
	if got := v.Session(client); got != want {
		t.Errorf("session of client %d: %+v, want %+v", client, got, want)
	}
}

func wantWait(t *testing.T, v *venue.Venue, client, want int) {
	t.Helper()
	if got := v.Wait(client); got != want {
		t.Errorf("%d requests of client %d wait, want %d", got, client, want)
	}
}

func TestFeedSession(t *testing.T) {
	v := newVenue(t, plainConfig)
	for client := range 6 {
		ticks(v, 1)
		now := v.Now()
		wantTold(t, v.Feed(client, frame(t, client, 1, login())))
		wantSession(t, v, client, session.Session{On: true, Next: 2, Last: now})
		ticks(v, 1)
		wantTold(t, v.Feed(client, frame(t, client, 2, beat())))
		wantSession(t, v, client, session.Session{On: true, Next: 3, Last: now + 1})
		wantTold(t, v.Feed(client, frame(t, client, 3, order(2, api.Sell, 1000, 5, 1<<30))), fmt.Sprintf("%d accepted 1073741824, 0 0, 0", client))
		wantWait(t, v, client, 1)
		wantTold(t, v.Feed(client, frame(t, client, 4, cancel(1, 0))), fmt.Sprintf("%d accepted 0, 0 0, 0", client))
		wantWait(t, v, client, 2)
		wantSession(t, v, client, session.Session{On: true, Next: 5, Last: now + 1})
		wantTold(t, v.Feed(client, frame(t, client, 5, logout())))
		wantSession(t, v, client, session.Session{})
		wantWait(t, v, client, 0)
	}
}

// What a frame's own error is, is told with an ID of 0, and changes nothing.
func TestFeedNoFrame(t *testing.T) {
	good := frame(t, 3, 2, order(0, api.Buy, 99, 1, 77))
	for _, c := range []struct {
		s    string
		code int
	}{
		{strings.Repeat("x", 30), 5},
		{strings.Repeat("\x00", 30), 5},
		{"p" + good[1:], 5},
		{good[:29] + string([]byte{good[29] ^ 128}), 5},
		{changed(good, 20, 1), 3},
		{changed(good, 25, 255), 3},
		{changed(good, 0, 'x'), 4},
		{changed(good, 1, 6), 2},
		{changed(good, 6, 3), 2},
		{changed(good, 7, 2), 2},
		{changed(good, 11, 0), 2},
		{changed(good, 15, 0), 2},
		{changed(good, 16, 255), 2},
		{changed(good, 0, 'h'), 3},
		{changed(good, 0, 'c'), 3},
	} {
		v := newVenue(t, plainConfig)
		sendAll(t, v, 3, login())
		ahead := state(v)
		want := fmt.Sprintf("3 refused 0, 0 0, %d", c.code)
		wantTold(t, v.Feed(3, c.s), want)
		wantTold(t, v.Feed(3, c.s+c.s), want, want)
		if state(v) != ahead {
			t.Errorf("%q made of\n%sthis:\n%s", c.s, ahead, state(v))
		}
		wantTold(t, v.Feed(3, good), "3 accepted 77, 0 0, 0")
	}
}

// A frame of another client is refused ahead of what any session says.
func TestFeedAnotherClient(t *testing.T) {
	v := newVenue(t, plainConfig)
	sendAll(t, v, 0, login())
	sendAll(t, v, 1, login())
	ahead := state(v)
	wantTold(t, v.Feed(0, frames(t, 1, 2, beat(), order(0, api.Buy, 99, 1, 5), cancel(0, 6), logout())),
		"0 refused 0, 0 0, 3", "0 refused 5, 0 0, 3", "0 refused 6, 0 0, 3", "0 refused 0, 0 0, 3")
	wantTold(t, v.Feed(0, frame(t, 1, 9, order(0, api.Buy, 99, 1, 5))), "0 refused 5, 0 0, 3")
	wantTold(t, v.Feed(0, frame(t, 2, 1, login())), "0 refused 0, 0 0, 3")
	wantTold(t, v.Feed(4, frame(t, 5, 1, login())), "4 refused 0, 0 0, 3")
	wantTold(t, v.Feed(4, frame(t, 0, 2, cancel(0, 8))), "4 refused 8, 0 0, 3")
	if state(v) != ahead {
		t.Errorf("frames of others made of\n%sthis:\n%s", ahead, state(v))
	}
	wantTold(t, runBatch(v))
	wantRecords(t, v, "0:")
}

func TestFeedOutOfSession(t *testing.T) {
	v := newVenue(t, plainConfig)
	ahead := state(v)
	wantTold(t, v.Feed(2, frames(t, 2, 1, beat(), order(0, api.Buy, 99, 1, 5), cancel(1, 6), logout())),
		"2 refused 0, 0 0, 11", "2 refused 5, 0 0, 11", "2 refused 6, 0 0, 11", "2 refused 0, 0 0, 11")
	wantTold(t, v.Feed(2, frame(t, 2, 0, login())+frame(t, 2, 2, login())), "2 refused 0, 0 0, 12", "2 refused 0, 0 0, 12")
	if state(v) != ahead {
		t.Errorf("requests of one that is off made of\n%sthis:\n%s", ahead, state(v))
	}
	sendAll(t, v, 2, login(), order(0, api.Buy, 99, 1, 4))
	ahead = state(v)
	wantTold(t, v.Feed(2, frame(t, 2, 1, login())+frame(t, 2, 3, login())), "2 refused 0, 0 0, 11", "2 refused 0, 0 0, 11")
	for _, seq := range []int{0, 1, 2, 4, 1 << 30} {
		wantTold(t, v.Feed(2, frame(t, 2, seq, beat())), "2 refused 0, 0 0, 12")
		wantTold(t, v.Feed(2, frame(t, 2, seq, order(0, api.Buy, 99, 1, 5))), "2 refused 5, 0 0, 12")
		wantTold(t, v.Feed(2, frame(t, 2, seq, cancel(0, 6))), "2 refused 6, 0 0, 12")
		wantTold(t, v.Feed(2, frame(t, 2, seq, logout())), "2 refused 0, 0 0, 12")
	}
	if state(v) != ahead {
		t.Errorf("requests with other numbers made of\n%sthis:\n%s", ahead, state(v))
	}
	// A logout that was refused drops nobody.
	wantTold(t, runBatch(v), "2 rests 4, 99 1, 0")
	sendAll(t, v, 2, beat())
	wantTold(t, runBatch(v))
	wantRecords(t, v, fmt.Sprintf("0: %x", frame(t, 2, 2, order(0, api.Buy, 99, 1, 4))), "1:")
}

// A request that is busy has used its number up, and was a word.
func TestFeedBusy(t *testing.T) {
	v := newVenue(t, plainConfig)
	sendAll(t, v, 1, login())
	for id := range 6 {
		wantTold(t, v.Feed(1, frame(t, 1, 2+id, order(0, api.Buy, 50, 1, 1+id))), fmt.Sprintf("1 accepted %d, 0 0, 0", 1+id))
		wantWait(t, v, 1, 1+id)
	}
	ticks(v, 1)
	wantTold(t, v.Feed(1, frames(t, 1, 8, order(0, api.Buy, 50, 1, 7), cancel(0, 1), beat())), "1 busy 7, 0 0, 0", "1 busy 1, 0 0, 0")
	wantSession(t, v, 1, session.Session{On: true, Next: 11, Last: 1})
	wantWait(t, v, 1, 6)
	// The queue of one is full: nobody else's is.
	sendAll(t, v, 0, login(), order(0, api.Buy, 50, 1, 9))
	wantTold(t, runBatch(v), "0 rests 9, 50 1, 0", "1 rests 1, 50 1, 0", "1 rests 2, 50 1, 0")
	wantWait(t, v, 1, 4)
	wantTold(t, send(t, v, 1, order(0, api.Buy, 50, 1, 7), order(0, api.Buy, 50, 1, 8), order(0, api.Buy, 50, 1, 10)),
		"1 accepted 7, 0 0, 0", "1 accepted 8, 0 0, 0", "1 busy 10, 0 0, 0")
}

// However a stream is parted, the same comes of it; and nobody's bytes are another one's.
func TestFeedInPieces(t *testing.T) {
	streams := [2]string{
		frames(t, 0, 1, login(), order(0, api.Buy, 99, 1, 5), order(0, api.Buy, 99, 1, 6), cancel(0, 5)),
		frames(t, 1, 1, login(), cancel(0, 1), beat(), cancel(0, 2)),
	}
	want := [2]string{
		"0 accepted 5, 0 0, 0; 0 accepted 6, 0 0, 0; 0 accepted 5, 0 0, 0",
		"1 accepted 1, 0 0, 0; 1 accepted 2, 0 0, 0",
	}
	for _, size := range []int{1, 2, 7, 29, 30, 31, 45, 59, 60, 61, 120} {
		v := newVenue(t, plainConfig)
		var got [2][]api.Report
		for at := 0; at < 120; at += size {
			for client, s := range streams {
				got[client] = append(got[client], v.Feed(client, s[at:min(at+size, 120)])...)
				wantTold(t, v.Feed(client, ""))
			}
		}
		for client := range 2 {
			if s := told(got[client]); s != want[client] {
				t.Errorf("by pieces of %d: %s, want %s", size, s, want[client])
			}
		}
	}
}

// A logout ends a session, not a stream: bytes behind it are read on.
func TestFeedBehindLogout(t *testing.T) {
	v := newVenue(t, plainConfig)
	again := frames(t, 4, 1, login(), order(1, api.Sell, 120, 2, 9))
	wantTold(t, v.Feed(4, frames(t, 4, 1, login(), order(1, api.Sell, 110, 2, 8), logout(), beat())+again[:10]), "4 accepted 8, 0 0, 0", "4 refused 0, 0 0, 11")
	wantSession(t, v, 4, session.Session{})
	wantWait(t, v, 4, 0)
	wantTold(t, v.Feed(4, again[10:]), "4 accepted 9, 0 0, 0")
	wantTold(t, runBatch(v), "4 rests 9, 120 2, 0")
	wantRecords(t, v, fmt.Sprintf("0:4 %x", again[30:]))
}

// A logout takes away the requests of its own client alone.
func TestLogoutLeavesOthers(t *testing.T) {
	v := newVenue(t, plainConfig)
	loginAll(t, v)
	for client := range 6 {
		sendAll(t, v, client, order(0, api.Buy, 50, 1, 1+client))
	}
	sendAll(t, v, 3, logout())
	for client := range 6 {
		if client == 3 {
			wantWait(t, v, client, 0)
			wantSession(t, v, client, session.Session{})
			continue
		}
		wantWait(t, v, client, 1)
		wantSession(t, v, client, session.Session{On: true, Next: 3})
	}
	wantTold(t, runBatch(v), "0 rests 1, 50 1, 0", "1 rests 2, 50 1, 0", "2 rests 3, 50 1, 0", "4 rests 5, 50 1, 0", "5 rests 6, 50 1, 0")
}

// What is answered is new memory.
func TestReportsAreNew(t *testing.T) {
	v, other := newVenue(t, plainConfig), newVenue(t, plainConfig)
	for range 5 {
		for _, x := range []*venue.Venue{v, other} {
			if !x.Session(0).On {
				sendAll(t, x, 0, login())
			}
		}
		got := append(send(t, v, 0, order(0, api.Buy, 50, 1, 1+v.Now()), cancel(1, 1)), runBatch(v)...)
		want := append(send(t, other, 0, order(0, api.Buy, 50, 1, 1+other.Now()), cancel(1, 1)), runBatch(other)...)
		if told(got) != told(want) || state(v) != state(other) {
			t.Errorf("told %s, want %s", told(got), told(want))
		}
		for i := range got {
			got[i] = api.Report{Client: 9, Kind: "written over"}
		}
	}
}
