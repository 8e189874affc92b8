package script_test

import (
	"testing"

	"gavelhouse/api"
	"gavelhouse/script"
	"gavelhouse/wire"
)

const noLine = "gavelhouse: text"

// untouched: what a client has in the beginning.
const untouched = "20000 0 100 0 100 0 100 0"

// said: a line, and its answer.
type said struct{ line, answer string }

func run(t *testing.T, lines ...string) []string {
	t.Helper()
	answers, err := script.Run(lines)
	if err != nil || len(answers) != len(lines) {
		t.Fatalf("%d lines: %q, %v", len(lines), answers, err)
	}
	return answers
}

// wantAnswers to lines that are one script.
func wantAnswers(t *testing.T, l ...said) {
	t.Helper()
	var lines []string
	for _, s := range l {
		lines = append(lines, s.line)
	}
	for i, got := range run(t, lines...) {
		if got != l[i].answer {
			t.Errorf("line %d, %q: %q, want %q", i, l[i].line, got, l[i].answer)
		}
	}
}

// join some parts of a script.
func join(parts ...[]said) []said {
	var l []said
	for _, p := range parts {
		l = append(l, p...)
	}
	return l
}

// loginAll clients.
func loginAll() []said {
	var l []said
	for _, c := range []string{"0", "1", "2", "3", "4", "5"} {
		l = append(l, said{"login " + c, "nothing"})
	}
	return l
}

// is: what all of the venue that a script can ask for is.
func is(batches string, items, clients []string) []said {
	l := []said{{"batches", batches}}
	for i, s := range []string{"0", "1", "2"} {
		l = append(l, said{"book " + s, items[2*i]}, said{"band " + s, items[2*i+1]})
	}
	for c, s := range []string{"0", "1", "2", "3", "4", "5"} {
		l = append(l, said{"has " + s, clients[c]})
	}
	return l
}

// isNew: nothing was traded, nothing rests.
func isNew(batches string) []said {
	return is(batches, []string{"nothing", "100 0", "nothing", "100 0", "nothing", "100 0"}, []string{untouched, untouched, untouched, untouched, untouched, untouched})
}

// frame of a request.
func frame(t *testing.T, a api.Ask) string {
	t.Helper()
	s, err := wire.Encode(a)
	if err != nil {
		t.Fatal(err)
	}
	return s
}
