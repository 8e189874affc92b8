package script_test

import (
	"fmt"
	"testing"

	"gavelhouse/api"
)

// size of a record of a venue that heard nobody, among its first ten: a digit and a colon, and what stands around them.
const size = 12 + 2

// Power fails where it is said, and then nothing goes on until the tape is opened again.
func TestCut(t *testing.T) {
	for n := range 3*size + 3 {
		batches := fmt.Sprint(min(n, 3*size) / size)
		l := []said{{fmt.Sprint("cut ", n), "ok"}, {"tick 9", "nothing"}, {"batches", batches}}
		cut := "gavelhouse: off"
		if n > 3*size {
			cut = "ok"
		}
		wantAnswers(t, append(l, said{"cut 5", cut}, said{"again", "ok"}, said{"batches", batches}, said{"cut 5", "ok"}, said{"tick 3", "nothing"}, said{"batches", batches}, said{"cut 5", "gavelhouse: off"})...)
	}
}

// The last cut that was said is the one that comes; with 0 power is off at once.
func TestCutTwice(t *testing.T) {
	wantAnswers(t, said{"cut 3", "ok"}, said{"cut 14", "ok"}, said{"tick 3", "nothing"}, said{"batches", "1"}, said{"cut 1", "gavelhouse: off"})
	wantAnswers(t, said{"cut 0", "ok"}, said{"cut 0", "gavelhouse: off"}, said{"batches", "0"}, said{"login 0", "nothing"}, said{"beat 1", "refused:1:0:0:0:11"}, said{"tick 3", "nothing"}, said{"beat 1", "nothing"}, said{"again", "ok"}, said{"cut 9999999", "ok"}, said{"tick 50", "nothing"}, said{"batches", "16"})
}

// A venue that is down hears nobody; what can be asked of it is as behind its last batch.
func TestDown(t *testing.T) {
	wantAnswers(t, join(loginAll(), []said{
		{"buy 2 1 4 99 3", "accepted:2:4"}, {"tick 3", "rests:2:4:99:3:0"}, {"cancel 2 1 4", "accepted:2:4"}, {"beat 2", "nothing"}, {"cut 20", "ok"}, {"tick 3", "nothing"},
		{"login 0", "nothing"}, {"beat 1", "nothing"}, {"logout 3", "nothing"}, {"sell 4 1 5 99 3", "nothing"}, {"cancel 5 1 4", "nothing"}, {"bytes 0 123456789012345678901234567890", "nothing"}, {"tick 50", "nothing"},
		{"cut 1", "gavelhouse: off"}, {"login 6", noLine},
	}, is("1", []string{"nothing", "100 0", "4:2:0:99:3", "100 0", "nothing", "100 0"}, []string{untouched, untouched, "20000 297 100 0 100 0 100 0", untouched, untouched, untouched}), []said{
		{"again", "ok"},
	}, is("1", []string{"nothing", "100 0", "4:2:0:99:3", "100 0", "nothing", "100 0"}, []string{untouched, untouched, "20000 297 100 0 100 0 100 0", untouched, untouched, untouched}), []said{
		{"beat 2", "refused:2:0:0:0:11"}, {"cut 1", "ok"},
	})...)
}

// Opened again, all sessions are off, numbers begin with 1, what waited is gone, and what rests stays.
func TestAgain(t *testing.T) {
	wantAnswers(t, said{"again", "ok"}, said{"again", "ok"}, said{"batches", "0"}, said{"tick 3", "nothing"}, said{"again", "ok"}, said{"batches", "1"}, said{"book 0", "nothing"}, said{"has 0", untouched})
	wantAnswers(t,
		said{"login 0", "nothing"}, said{"buy 0 0 1 100 5", "accepted:0:1"}, said{"beat 0", "nothing"}, said{"tick 3", "rests:0:1:100:5:0"},
		said{"sell 0 0 2 105 1", "accepted:0:2"}, said{"tick 2", "nothing"}, said{"bytes 0 abc", "nothing"},
		said{"again", "ok"}, said{"batches", "1"}, said{"book 0", "1:0:0:100:5"}, said{"has 0", "20000 500 100 0 100 0 100 0"},
		// What was said ahead of it does not count.
		said{"cancel 0 0 1", "refused:0:1:0:0:11"}, said{"login 0", "nothing"}, said{"login 1", "nothing"}, said{"sell 1 0 3 99 2", "accepted:1:3"},
		// The ticks begin anew behind the last batch: the two that were are gone.
		said{"tick 2", "nothing"}, said{"tick 1", "filled:0:1:100:2:0 filled:1:3:100:2:0"}, said{"batches", "2"}, said{"book 0", "1:0:0:100:3"},
	)
}

// The numbers of all clients begin anew, not of those alone that log in: a login by bytes, which the player does not number, lets it show.
func TestAgainNumbers(t *testing.T) {
	for c := range 6 {
		name := func(word string) string { return fmt.Sprint(word, " ", c) }
		bytes := name("bytes") + " " + frame(t, api.Ask{Kind: api.Login, Client: c, Seq: 1})
		off := fmt.Sprintf("refused:%d:0:0:0:11", c)
		order := fmt.Sprintf("refused:%d:0:0:0:12", c)
		wantAnswers(t,
			said{name("login"), "nothing"}, said{name("beat"), "nothing"}, said{name("beat"), "nothing"}, said{"again", "ok"},
			said{bytes, "nothing"}, said{name("beat"), order}, said{name("beat"), "nothing"}, said{name("logout"), "nothing"}, said{name("beat"), off},
		)
	}
}

// A tape that is opened again goes on: records behind the cut are written where the half one was.
func TestAgainAndAgain(t *testing.T) {
	var l []said
	for n := range 12 {
		l = append(l,
			said{"login 4", "nothing"}, said{fmt.Sprintf("buy 4 2 %d 50 1", n+1), fmt.Sprint("accepted:4:", n+1)}, said{"tick 3", fmt.Sprintf("rests:4:%d:50:1:0", n+1)},
			said{fmt.Sprint("cut ", n), "ok"}, said{"tick 3", "nothing"}, said{"batches", fmt.Sprint(n + 1)}, said{"again", "ok"}, said{"batches", fmt.Sprint(n + 1)},
		)
	}
	wantAnswers(t, append(l, said{"has 4", "20000 600 100 0 100 0 100 0"}, said{"book 2", "1:4:0:50:1 2:4:0:50:1 3:4:0:50:1 4:4:0:50:1 5:4:0:50:1 6:4:0:50:1 7:4:0:50:1 8:4:0:50:1 9:4:0:50:1 10:4:0:50:1 11:4:0:50:1 12:4:0:50:1"})...)
}
