package side_test

import (
	"fmt"
	"math"
	"strings"
	"testing"

	"gavelhouse/api"
	"gavelhouse/play"
	"gavelhouse/side"
)

// sum of the play with this number, by package play alone.
func sum(t *testing.T, k int, script []int) string {
	t.Helper()
	p, err := play.New(k)
	if err != nil {
		t.Fatal(err)
	}
	p.Run(script)
	return play.Sum(p.Venue())
}

// fresh: the sum of a venue of which nothing was asked.
func fresh() string {
	return strings.Repeat("100 0\n", 3) + strings.Repeat("20000 0 100 0 100 0 100 0\n", 6)
}

// bought: clients 1 and 2 log in; client 2 asks for 3 of item 0 at 95; and three ticks.
func bought() []int {
	tick := number(0, 8, 0)
	return []int{number(1, 0, 0), number(2, 0, 0), number(2, 2, 6*5+120*2), tick, tick, tick}
}

func TestPlays(t *testing.T) {
	rests := "100 0 2001:2:0:95:3\n100 0\n100 0\n" +
		strings.Repeat("20000 0 100 0 100 0 100 0\n", 2) + "20000 285 100 0 100 0 100 0\n" + strings.Repeat("20000 0 100 0 100 0 100 0\n", 3)
	for _, w := range counts() {
		got, err := side.Plays([][]int{bought()}, w)
		wantList(t, "one", got, err, rests)
		got, err = side.Plays([][]int{nil, bought(), {}, {-1, math.MinInt}, bought(), {math.MaxInt}}, w)
		wantList(t, "some", got, err, fresh(), rests, fresh(), fresh(), rests, fresh())
	}
}

func TestNoPlays(t *testing.T) {
	for _, w := range counts() {
		got, err := side.Plays(nil, w)
		wantList(t, "nil", got, err)
		got, err = side.Plays([][]int{}, w)
		wantList(t, "empty", got, err)
	}
}

// drawn: a script whose sum hangs on the seed: five clients sell one piece each, and one buys two of them, over and over.
func drawn() []int {
	var script []int
	for range 6 {
		for client := range 6 {
			script = append(script, number(client, 0, 0))
		}
		for client := range 5 {
			script = append(script, number(client, 2, 3+6*10))
		}
		script = append(script, number(5, 2, 6*10+120*1))
		for range 3 {
			script = append(script, number(0, 8, 0))
		}
	}
	return script
}

// Each script is that of the play whose number is its place.
func TestPlaysByNumber(t *testing.T) {
	scripts := make([][]int, 40)
	want := make([]string, 40)
	kinds := map[string]int{}
	for k := range scripts {
		scripts[k] = drawn()
		want[k] = sum(t, k, drawn())
		kinds[want[k]]++
	}
	if len(kinds) < 30 {
		t.Fatalf("only %d sums of 40 seeds", len(kinds))
	}
	for _, w := range counts() {
		got, err := side.Plays(scripts, w)
		wantList(t, fmt.Sprintf("%d workers", w), got, err, want...)
	}
}

func TestPlaysBounds(t *testing.T) {
	for _, w := range counts() {
		for _, n := range []int{41, 42, 100, 101, 296, 10000} {
			got, err := side.Plays(make([][]int, n), w)
			wantBare(t, fmt.Sprintf("%d scripts", n), got, err, api.ErrBound)
		}
		for _, n := range []int{39, 40} {
			got, err := side.Plays(make([][]int, n), w)
			want := make([]string, n)
			for k := range want {
				want[k] = fresh()
			}
			wantList(t, fmt.Sprintf("%d scripts", n), got, err, want...)
		}
	}
	for _, w := range wrongCounts() {
		for _, n := range []int{0, 1, 40, 41} {
			got, err := side.Plays(make([][]int, n), w)
			wantBare(t, fmt.Sprintf("%d workers, %d scripts", w, n), got, err, api.ErrShape)
		}
	}
}

// A script is played as far as a Run goes.
func TestPlaysLong(t *testing.T) {
	long := make([]int, 1994)
	for i := range long {
		long[i] = -1
	}
	long = append(long, bought()...)
	far := append([]int{-1}, long...)
	for _, w := range []int{1, 2, 16} {
		got, err := side.Plays([][]int{long, far}, w)
		// of the second one, the last tick is not played, and the order waits
		wantList(t, "long", got, err, sum(t, 0, bought()), fresh())
	}
}

// P4: scripts are only read, also if they are one in memory.
func TestPlaysArguments(t *testing.T) {
	all := append(bought(), -5, -6)
	n := len(bought())
	scripts := [][]int{all[:n], all[:n:n], all[:n-1], all}
	want := []string{sum(t, 0, bought()), sum(t, 1, bought()), fresh(), sum(t, 3, bought())}
	for _, w := range counts() {
		got, err := side.Plays(scripts, w)
		wantList(t, "shared", got, err, want...)
		got[0], got[3] = "spoilt", "spoilt"
	}
	if fmt.Sprint(all) != fmt.Sprint(append(bought(), -5, -6)) || len(scripts[0]) != n || len(scripts[3]) != n+2 {
		t.Errorf("scripts were written to: %v", all)
	}
}
