package script_test

import (
	"fmt"
	"strings"
	"testing"

	"gavelhouse/api"
	"gavelhouse/script"
)

func TestHowManyLines(t *testing.T) {
	for _, n := range []int{0, 1, 2, 99, 100} {
		lines := make([]string, n)
		for i := range lines {
			lines[i] = "batches"
		}
		for i, s := range run(t, lines...) {
			if s != "0" {
				t.Errorf("line %d of %d: %q", i, n, s)
			}
		}
	}
	if l, err := script.Run(nil); len(l) > 0 || err != nil {
		t.Errorf("no lines: %q, %v", l, err)
	}
	for _, n := range []int{101, 102, 200, 2000} {
		if l, err := script.Run(make([]string, n)); len(l) > 0 || err != api.ErrBound {
			t.Errorf("%d lines: %q, %v", n, l, err)
		}
	}
}

// What stands behind a list's length is no line.
func TestLinesBehind(t *testing.T) {
	all := make([]string, 150)
	for i := range all {
		all[i] = "tick 3"
	}
	if l, err := script.Run(all[:2]); len(l) != 2 || err != nil {
		t.Errorf("2 lines: %q, %v", l, err)
	}
}

func TestBeginning(t *testing.T) { wantAnswers(t, isNew("0")...) }

// Words of a session are told only where they are refused; each client has numbers of its own.
func TestSessions(t *testing.T) {
	for c := range 6 {
		name := func(word string) string { return fmt.Sprint(word, " ", c) }
		off := fmt.Sprintf("refused:%d:0:0:0:11", c)
		order := fmt.Sprintf("refused:%d:0:0:0:12", c)
		wantAnswers(t,
			said{name("beat"), off}, said{name("logout"), off},
			said{name("login"), "nothing"}, said{name("beat"), "nothing"}, said{name("beat"), "nothing"},
			said{fmt.Sprint("beat ", (c+1)%6), fmt.Sprintf("refused:%d:0:0:0:11", (c+1)%6)},
			said{name("beat"), "nothing"},
			// A login that is refused begins numbers anew, which the session does not.
			said{name("login"), off}, said{name("beat"), order}, said{name("beat"), order}, said{name("beat"), order}, said{name("beat"), "nothing"},
			said{name("logout"), "nothing"}, said{name("beat"), off},
			said{name("login"), "nothing"}, said{name("logout"), "nothing"}, said{name("logout"), off}, said{name("login"), "nothing"},
		)
	}
}

// Orders and cancels, from the first report to the last one, and what the venue is then.
func TestOrders(t *testing.T) {
	wantAnswers(t, join(loginAll(), []said{
		{"buy 1 2 7 104 5", "accepted:1:7"}, {"sell 4 2 8 98 3", "accepted:4:8"}, {"sell 5 0 9 107 2", "accepted:5:9"}, {"sell 5 0 10 106 4", "accepted:5:10"}, {"buy 0 1 9 91 1", "accepted:0:9"},
	}, isNew("0"), []said{
		{"tick 2", "nothing"},
		{"tick 1", "rests:5:9:107:2:0 rests:5:10:106:4:0 rests:0:9:91:1:0 filled:1:7:100:3:0 filled:4:8:100:3:0 rests:1:7:104:2:0"},
	}, is("1", []string{"9:5:1:107:2 10:5:1:106:4", "100 0", "9:0:0:91:1", "100 0", "7:1:0:104:2", "100 0"}, []string{
		"20000 91 100 0 100 0 100 0", "19700 208 100 0 100 0 103 0", untouched, untouched, "20300 0 100 0 100 0 97 0", "20000 0 100 6 100 0 100 0",
	}), []said{
		{"cancel 5 0 9", "accepted:5:9"}, {"cancel 4 2 7", "accepted:4:7"}, {"cancel 0 0 9", "accepted:0:9"}, {"cancel 1 2 7", "accepted:1:7"}, {"logout 0", "nothing"},
		{"tick 3", "gone:0:9:91:1:0 gone:1:7:104:2:0 refused:4:7:0:0:6 gone:5:9:107:2:0"},
	}, is("2", []string{"10:5:1:106:4", "100 0", "nothing", "100 0", "nothing", "100 0"}, []string{
		untouched, "19700 0 100 0 100 0 103 0", untouched, untouched, "20300 0 100 0 100 0 97 0", "20000 0 100 4 100 0 100 0",
	}))...)
}

// What a batch refuses is told with its number; the greatest numbers of a line are well.
func TestRefused(t *testing.T) {
	wantAnswers(t,
		said{"login 0", "nothing"}, said{"login 1", "nothing"}, said{"login 2", "nothing"},
		said{"buy 0 0 9999999 1000 20", "accepted:0:9999999"}, said{"buy 0 1 9999999 1 1", "accepted:0:9999999"},
		said{"sell 1 2 1 1000 1000", "accepted:1:1"}, said{"sell 1 2 0 1 1", "accepted:1:0"},
		said{"buy 2 0 9999999 1 1", "accepted:2:9999999"}, said{"cancel 2 2 9999999", "accepted:2:9999999"},
		said{"tick 3", "refused:0:9999999:0:0:10 refused:1:1:0:0:10 refused:1:0:0:0:2 refused:2:9999999:0:0:7 refused:2:9999999:0:0:6 rests:0:9999999:1000:20:0"},
	)
}

// Who sends more than may wait is told so, of that request alone, and its number counts.
func TestBusy(t *testing.T) {
	l := []said{{"login 3", "nothing"}}
	for id := range 6 {
		l = append(l, said{fmt.Sprint("cancel 3 0 ", id+1), fmt.Sprint("accepted:3:", id+1)})
	}
	l = append(l, said{"sell 3 0 7 1 1", "busy:3:7"}, said{"cancel 3 0 0", "busy:3:0"}, said{"beat 3", "nothing"})
	wantAnswers(t, append(l, said{"tick 3", "refused:3:1:0:0:6 refused:3:2:0:0:6"}, said{"buy 3 0 7 1 1", "accepted:3:7"})...)
}

// A halt shows in the band.
func TestHalt(t *testing.T) {
	wantAnswers(t,
		said{"login 0", "nothing"}, said{"login 1", "nothing"}, said{"buy 0 1 1 111 1", "accepted:0:1"}, said{"sell 1 1 2 111 1", "accepted:1:2"},
		said{"tick 3", "rests:0:1:111:1:0 rests:1:2:111:1:0"}, said{"band 1", "100 2"}, said{"band 0", "100 0"}, said{"beat 0", "nothing"}, said{"beat 1", "nothing"},
		said{"tick 3", "nothing"}, said{"band 1", "100 1"}, said{"beat 0", "nothing"}, said{"beat 1", "nothing"},
		said{"tick 3", "nothing"}, said{"band 1", "111 0"}, said{"beat 0", "nothing"}, said{"beat 1", "nothing"},
		said{"tick 3", "filled:0:1:111:1:0 filled:1:2:111:1:0"}, said{"band 1", "111 0"}, said{"has 0", "19889 0 100 0 101 0 100 0"},
	)
}

// Reports of many ticks are one answer, those of each batch behind those of the one ahead.
func TestTicks(t *testing.T) {
	wantAnswers(t, join([]said{{"tick 1", "nothing"}, {"tick 2", "nothing"}, {"batches", "1"}, {"tick 50", "nothing"}, {"batches", "17"}, {"tick 1", "nothing"}, {"batches", "18"}}, isNew("18"))...)
	wantAnswers(t,
		said{"login 3", "nothing"}, said{"buy 3 0 1 99 1", "accepted:3:1"}, said{"sell 3 0 2 101 2", "accepted:3:2"}, said{"buy 3 1 3 90 4", "accepted:3:3"},
		said{"tick 50", "rests:3:1:99:1:0 rests:3:2:101:2:0 gone:3:1:99:1:0 gone:3:2:101:2:0"},
		said{"batches", "16"}, said{"beat 3", "refused:3:0:0:0:11"},
	)
}

// Bytes are fed as they are, blanks and all, and wait for the rest of their frame, wherever that comes from.
func TestBytes(t *testing.T) {
	login := frame(t, api.Ask{Kind: api.Login, Client: 2, Seq: 1})
	buy := frame(t, api.Ask{Kind: api.Place, Client: 2, Seq: 2, Item: 1, Side: api.Buy, Price: 0x20, Qty: 0x20, ID: 0x20202020})
	wantAnswers(t,
		said{"bytes 2 " + login, "nothing"},
		said{"bytes 2 " + buy[:11], "nothing"}, said{"bytes 2 " + buy[11:12], "nothing"}, said{"bytes 2 " + buy[12:], "accepted:2:538976288"},
		said{"bytes 2 " + strings.Repeat(" ", 30), "refused:2:0:0:0:5"}, said{"bytes 2 " + strings.Repeat("  x", 20), "refused:2:0:0:0:5 refused:2:0:0:0:5"},
		said{"bytes 2  ", "nothing"}, said{"bytes 2 " + strings.Repeat("\n", 28), "nothing"}, said{"bytes 2 \xff", "refused:2:0:0:0:5"},
		said{"bytes 0 " + login, "refused:0:0:0:0:3"},
		said{"bytes 2 ", "nothing"}, said{"bytes 2 l", "nothing"},
		// The player does not know of them: its own first number is 1, and its frame is off by one byte.
		said{"beat 2", "refused:2:0:0:0:5"},
	)
	wantAnswers(t,
		said{"bytes 2 " + login, "nothing"}, said{"beat 2", "refused:2:0:0:0:12"}, said{"beat 2", "nothing"}, said{"login 2", "refused:2:0:0:0:11"},
	)
}
