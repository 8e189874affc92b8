package session_test

import (
	"math"
	"testing"

	"gavelhouse/api"
	"gavelhouse/session"
)

func TestTimeout(t *testing.T) {
	if api.Timeout != 5 {
		t.Error(api.Timeout)
	}
}

func TestLate(t *testing.T) {
	for _, last := range []int{0, 1, 9, 1 << 31, 1 << 32, 1<<40 - 6} {
		for _, next := range []int{2, 9, 1<<30 + 1} {
			for gap := range 7 {
				if got := on(next, last).Late(last + gap); got != (gap == 6) {
					t.Errorf("last word at %d, now %d: late is %v", last, last+gap, got)
				}
			}
			if !on(next, last).Late(1 << 40) {
				t.Errorf("last word at %d: is not late at the end", last)
			}
		}
	}
}

// The last word came at the end of the ticks: nothing is late any more.
func TestLateAtTheEnd(t *testing.T) {
	for gap := range 6 {
		if on(2, 1<<40-gap).Late(1 << 40) {
			t.Errorf("is late behind %d", gap)
		}
	}
}

// A word of a tick that is still to come makes nobody late.
func TestLateAheadOfTheLastWord(t *testing.T) {
	for _, now := range []int{0, 1, 2, 93, 94, 95, 99} {
		if on(2, 100).Late(now) {
			t.Errorf("is late at %d", now)
		}
	}
}

func TestLateWhileOff(t *testing.T) {
	for _, s := range []session.Session{{}, {Last: 1}, {Next: 2, Last: 3}} {
		for _, now := range []int{0, 5, 6, 9, 1 << 40} {
			if s.Late(now) {
				t.Errorf("%v is late at %d", s, now)
			}
		}
	}
}

// Each word puts it off; a word that is refused does not.
func TestLateBehindWords(t *testing.T) {
	s, err := off.Take(ask(api.Login, 1), 10)
	if err != nil || s.Late(15) || !s.Late(16) {
		t.Fatal(s, err)
	}
	for i, kind := range stays {
		if s, err = s.Take(ask(kind, i+2), 20+i); err != nil || s.Late(25+i) || !s.Late(26+i) {
			t.Fatal(s, err)
		}
	}
	if s, err = s.Take(ask(api.Beat, 9), 26); err != api.ErrOrder || !s.Late(28) {
		t.Fatal(s, err)
	}
	if s, err = s.Take(ask(api.Logout, 5), 28); err != nil || s.Late(1000) {
		t.Fatal(s, err)
	}
}

// What is not spoken of has some answer, and no panic.
func TestLateOfAnyNumbers(t *testing.T) {
	for _, last := range []int{math.MinInt, -1, 0, math.MaxInt} {
		for _, now := range []int{math.MinInt, -1, 0, math.MaxInt} {
			on(2, last).Late(now)
			if (session.Session{Last: last}).Late(now) {
				t.Errorf("off, with %d, and late at %d", last, now)
			}
		}
	}
}
