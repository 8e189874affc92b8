package session_test

import (
	"math"
	"testing"

	"gavelhouse/api"
	"gavelhouse/session"
)

// on: a session that is, of a next number and a last tick.
func on(next, last int) session.Session {
	return session.Session{On: true, Next: next, Last: last}
}

var off = session.Session{}

// ask of a kind that is well, with a number.
func ask(kind byte, seq int) api.Ask {
	switch kind {
	case api.Place:
		return api.Ask{Kind: kind, Client: 3, Seq: seq, Item: 2, Side: api.Sell, Price: 7, Qty: 8, ID: 9}
	case api.Cancel:
		return api.Ask{Kind: kind, Client: 3, Seq: seq, Item: 2, ID: 9}
	}
	return api.Ask{Kind: kind, Client: 3, Seq: seq}
}

// stays: kinds that leave a session on.
var stays = []byte{api.Beat, api.Place, api.Cancel}

// later: kinds that need a session that is on.
var later = []byte{api.Beat, api.Place, api.Cancel, api.Logout}

func wantTake(t *testing.T, s session.Session, a api.Ask, now int, want session.Session) {
	t.Helper()
	if x, err := s.Take(a, now); x != want || err != nil {
		t.Errorf("%v takes %+v at %d: %v, %v, want %v", s, a, now, x, err, want)
	}
}

// wantNot: the session that comes with an error is as it was.
func wantNot(t *testing.T, s session.Session, a api.Ask, now int, want error) {
	t.Helper()
	if x, err := s.Take(a, now); x != s || err != want {
		t.Errorf("%v takes %+v at %d: %v, %v, want %v", s, a, now, x, err, want)
	}
}

func TestLogin(t *testing.T) {
	for _, now := range []int{0, 1, 7, 1 << 32, 1 << 40} {
		wantTake(t, off, ask(api.Login, 1), now, on(2, now))
		for client := range 6 {
			wantTake(t, off, api.Ask{Kind: api.Login, Client: client, Seq: 1}, now, on(2, now))
		}
	}
}

// Of a session that is off, nothing is left that a login would see.
func TestLoginForgets(t *testing.T) {
	for _, s := range []session.Session{{Next: 1}, {Next: 9, Last: 50}, {Next: -1, Last: -1}, {Next: math.MaxInt, Last: math.MinInt}} {
		wantTake(t, s, ask(api.Login, 1), 4, on(2, 4))
		wantNot(t, s, ask(api.Login, 2), 4, api.ErrOrder)
		wantNot(t, s, ask(api.Login, 9), 4, api.ErrOrder)
	}
}

func TestLoginOfAnotherNumber(t *testing.T) {
	for _, seq := range []int{0, 2, 3, 257, 65537, 1 << 30} {
		wantNot(t, off, ask(api.Login, seq), 4, api.ErrOrder)
	}
}

func TestLoginWhileOn(t *testing.T) {
	for _, s := range []session.Session{on(2, 3), on(1, 3), on(0, 0), on(9, 50), on(1<<30, 1<<40)} {
		for _, seq := range []int{0, 1, 2, 9, 1 << 30} {
			wantNot(t, s, ask(api.Login, seq), 60, api.ErrState)
		}
	}
}

func TestOthers(t *testing.T) {
	for _, kind := range stays {
		for _, next := range []int{2, 3, 4, 255, 256, 65536, 1<<30 - 1} {
			wantTake(t, on(next, 3), ask(kind, next), 8, on(next+1, 8))
			wantTake(t, on(next, 3), ask(kind, next), 3, on(next+1, 3))
			wantTake(t, on(next, 0), ask(kind, next), 1<<40, on(next+1, 1<<40))
		}
	}
}

// Take does not ask whether a session is late: that is the business of who holds it.
func TestOthersOfOneThatIsLate(t *testing.T) {
	for _, kind := range stays {
		wantTake(t, on(2, 3), ask(kind, 2), 9, on(3, 9))
		wantTake(t, on(2, 3), ask(kind, 2), 1000, on(3, 1000))
	}
	wantTake(t, on(2, 3), ask(api.Logout, 2), 1000, off)
}

func TestOthersOfAnotherNumber(t *testing.T) {
	for _, kind := range later {
		for _, next := range []int{2, 3, 255, 1 << 20} {
			for _, seq := range []int{0, 1, next - 1, next + 1, next + 256, 1 << 30} {
				wantNot(t, on(next, 3), ask(kind, seq), 8, api.ErrOrder)
			}
		}
	}
}

func TestOthersWhileOff(t *testing.T) {
	for _, kind := range later {
		for _, s := range []session.Session{off, {Next: 1}, {Next: 2, Last: 3}} {
			for _, seq := range []int{0, 1, 2, 1 << 30} {
				wantNot(t, s, ask(kind, seq), 4, api.ErrState)
			}
		}
	}
}

func TestLogout(t *testing.T) {
	for _, next := range []int{2, 3, 256, 1 << 30} {
		for _, now := range []int{0, 3, 8, 1 << 40} {
			wantTake(t, on(next, 3), ask(api.Logout, next), now, off)
		}
	}
}

// Behind a logout a client begins anew, with 1.
func TestLoginBehindLogout(t *testing.T) {
	s, err := on(7, 3).Take(ask(api.Logout, 7), 4)
	if err != nil {
		t.Fatal(err)
	}
	wantNot(t, s, ask(api.Logout, 8), 5, api.ErrState)
	wantNot(t, s, ask(api.Login, 8), 5, api.ErrOrder)
	wantTake(t, s, ask(api.Login, 1), 5, on(2, 5))
}

// The highest number that a request may have is taken; behind it there is none.
func TestTakeOfTheLastNumber(t *testing.T) {
	const top = 1 << 30
	for _, kind := range stays {
		wantTake(t, on(top, 3), ask(kind, top), 8, on(top+1, 8))
	}
	for _, kind := range later {
		wantNot(t, on(top+1, 8), ask(kind, top), 9, api.ErrOrder)
		wantNot(t, on(top+1, 8), ask(kind, top+1), 9, api.ErrBound)
	}
}

// A session that no call gave is taken at its word, and nothing wraps round.
func TestTakeOfAnySession(t *testing.T) {
	for _, kind := range stays {
		wantTake(t, on(0, 3), ask(kind, 0), 8, on(1, 8))
		wantTake(t, on(1, 3), ask(kind, 1), 8, on(2, 8))
		for _, next := range []int{math.MinInt, -1, 2 + 1<<32, math.MaxInt} {
			wantNot(t, on(next, 3), ask(kind, 2), 8, api.ErrOrder)
			wantNot(t, on(next, 3), ask(kind, next), 8, api.ErrBound)
		}
	}
	for _, now := range []int{math.MinInt, -1, math.MaxInt} {
		wantTake(t, on(2, now), ask(api.Beat, 2), now, on(3, now))
	}
}

// badAsks: what wire.Check says of each, whatever number within the bounds it has.
func badAsks() map[api.Ask]error {
	return map[api.Ask]error{
		{}:                              api.ErrKind,
		{Kind: 'x'}:                     api.ErrKind,
		{Kind: 'L'}:                     api.ErrKind,
		{Kind: 'x', Client: -1, ID: -1}: api.ErrKind,

		{Kind: api.Place}:                               api.ErrBound,
		{Kind: api.Place, Price: 1001, Qty: 1}:          api.ErrBound,
		{Kind: api.Place, Price: 1, Qty: 1, Item: 3}:    api.ErrBound,
		{Kind: api.Place, Price: 1, Qty: 1, ID: -1}:     api.ErrBound,
		{Kind: api.Cancel, Item: 3}:                     api.ErrBound,
		{Kind: api.Beat, Client: -1}:                    api.ErrBound,
		{Kind: api.Login, Client: 6}:                    api.ErrBound,
		{Kind: api.Logout, Client: math.MinInt, Qty: 1}: api.ErrBound,

		{Kind: api.Cancel, Side: 1}: api.ErrShape,
		{Kind: api.Beat, ID: 1}:     api.ErrShape,
		{Kind: api.Login, Item: 1}:  api.ErrShape,
		{Kind: api.Logout, Qty: 1}:  api.ErrShape,
	}
}

// What wire.Check says comes ahead of the state, and that ahead of the number.
func TestTakeOrderOfErrors(t *testing.T) {
	for _, s := range []session.Session{off, on(2, 3)} {
		for a, want := range badAsks() {
			for _, seq := range []int{0, 1, 2, 9} {
				a.Seq = seq
				wantNot(t, s, a, 4, want)
			}
		}
		for _, kind := range append([]byte{api.Login}, later...) {
			for _, seq := range []int{-1, 1<<30 + 1, 1 + 1<<32, 2 + 1<<32, math.MinInt, math.MaxInt} {
				wantNot(t, s, ask(kind, seq), 4, api.ErrBound)
			}
		}
	}
	wantNot(t, on(2, 3), ask(api.Login, 9), 4, api.ErrState)
	wantNot(t, off, ask(api.Beat, 9), 4, api.ErrState)
}

// A session is a value: the one that took is still there as it was.
func TestTakeLeavesItsOwn(t *testing.T) {
	s := on(2, 3)
	for range 3 {
		wantTake(t, s, ask(api.Beat, 2), 8, on(3, 8))
		wantTake(t, s, ask(api.Logout, 2), 8, off)
	}
	if s != on(2, 3) {
		t.Error(s)
	}
}
