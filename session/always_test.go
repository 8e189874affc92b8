package session_test

import (
	"math/rand"
	"testing"

	"gavelhouse/api"
	"gavelhouse/session"
)

// log: what a client was taken at its word for since it came on, made without the program's session.
type log struct {
	seqs []int // none: it is off
	last int
}

func (l log) session() session.Session {
	if len(l.seqs) == 0 {
		return session.Session{}
	}
	return on(l.seqs[len(l.seqs)-1]+1, l.last)
}

// fits: the errors of a request that is well.
func (l log) fits(a api.Ask) error {
	isOn, login := len(l.seqs) > 0, a.Kind == api.Login
	switch {
	case isOn && login, !isOn && !login:
		return api.ErrState
	case login && a.Seq != 1, !login && a.Seq != len(l.seqs)+1:
		return api.ErrOrder
	}
	return nil
}

// with a request that was taken.
func (l log) with(a api.Ask, now int) log {
	if a.Kind == api.Logout {
		return log{}
	}
	return log{append(l.seqs, a.Seq), now}
}

// draw a request: mostly one that fits.
func draw(r *rand.Rand, s session.Session) api.Ask {
	kinds := []byte{api.Beat, api.Place, api.Cancel, api.Beat, api.Place, api.Cancel, api.Logout, api.Login}
	kind, seq := kinds[r.Intn(len(kinds))], max(s.Next, 1)
	if !s.On && r.Intn(2) == 0 {
		kind = api.Login
	}
	if r.Intn(4) == 0 {
		seq = max(0, seq+r.Intn(5)-2)
	}
	return ask(kind, seq)
}

// P102: of any run of requests, those that are taken have 1, 2, 3 and so on, from each login to its logout.
func TestTakenNumbersRiseByOne(t *testing.T) {
	seen := map[error]int{}
	longest := 0
	for seed := range 300 {
		r := rand.New(rand.NewSource(int64(seed)))
		var s session.Session
		var l log
		now := r.Intn(10)
		for range 300 {
			now += r.Intn(4)
			a := draw(r, s)
			want := l.fits(a)
			x, err := s.Take(a, now)
			if seen[err]++; err != want {
				t.Fatalf("seed %d: %v takes %+v: %v, want %v", seed, s, a, err, want)
			}
			if err == nil {
				l = l.with(a, now)
			}
			if s = x; s != l.session() {
				t.Fatalf("seed %d: %v behind %+v, want %v", seed, s, a, l.session())
			}
			longest = max(longest, len(l.seqs))
		}
	}
	if seen[nil] < 1000 || seen[api.ErrState] < 1000 || seen[api.ErrOrder] < 1000 || longest < 20 {
		t.Error("too little was drawn:", seen, longest)
	}
}

// Of numbers that come twice, or too soon, just one of each is taken.
func TestNumbersThatComeTwiceOrTooSoon(t *testing.T) {
	s, err := off.Take(ask(api.Login, 1), 0)
	if err != nil {
		t.Fatal(err)
	}
	var taken []int
	for seq := 2; seq <= 50; seq++ {
		for _, tried := range []int{seq + 1, seq, seq, seq - 1, seq + 2} {
			x, err := s.Take(ask(stays[seq%3], tried), seq)
			if err == nil {
				taken = append(taken, tried)
			}
			s = x
		}
	}
	for i, seq := range taken {
		if seq != i+2 {
			t.Fatal(taken)
		}
	}
	if len(taken) != 49 {
		t.Error(len(taken))
	}
}
