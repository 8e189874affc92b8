package side_test

import (
	"fmt"
	"slices"
	"testing"

	"gavelhouse/api"
	"gavelhouse/side"
)

func TestPrices(t *testing.T) {
	for _, w := range counts() {
		name := fmt.Sprintf("%d workers", w)
		got, err := side.Prices([][]api.Lot{trade(50)}, 9, w)
		wantList(t, name, got, err, 50)
		got, err = side.Prices([][]api.Lot{trade(3), trade(1000), trade(1), trade(7), trade(3)}, 9, w)
		wantList(t, name, got, err, 3, 1000, 1, 7, 3)
		// nothing trades: also such a one has its place
		got, err = side.Prices([][]api.Lot{nil, trade(4), {}, {buy(1, 7, 5), sell(2, 8, 5)}, trade(6), {sell(1, 1, 1)}}, 9, w)
		wantList(t, name, got, err, 0, 4, 0, 0, 6, 0)
	}
}

// The reference is that of all of them.
func TestPricesAtReference(t *testing.T) {
	wide := []api.Lot{buy(1, 900, 5), sell(2, 100, 5)}
	for _, c := range []struct{ ref, want int }{{1, 100}, {100, 100}, {101, 101}, {500, 500}, {899, 899}, {901, 900}, {1000, 900}} {
		for _, w := range []int{1, 2, 3, 16} {
			got, err := side.Prices([][]api.Lot{wide, trade(7), wide}, c.ref, w)
			wantList(t, fmt.Sprintf("reference %d", c.ref), got, err, c.want, 7, c.want)
		}
	}
}

func TestNoPrices(t *testing.T) {
	for _, w := range counts() {
		for _, ref := range []int{-1, 0, 1, 1000, 1001} {
			got, err := side.Prices(nil, ref, w)
			wantList(t, "nil", got, err)
			got, err = side.Prices([][]api.Lot{}, ref, w)
			wantList(t, "empty", got, err)
		}
	}
}

func TestPricesBounds(t *testing.T) {
	for _, w := range counts() {
		hundred := make([][]api.Lot, 100)
		want := make([]int, 100)
		for i := range hundred {
			hundred[i], want[i] = trade(1000-i), 1000-i
		}
		got, err := side.Prices(hundred, 1, w)
		wantList(t, "100", got, err, want...)
		for _, n := range []int{101, 102, 356, 10000} {
			got, err = side.Prices(make([][]api.Lot, n), 9, w)
			wantBare(t, fmt.Sprintf("%d lists", n), got, err, api.ErrBound)
		}
		// with too many of them, the first that is not well is not told
		got, err = side.Prices(append(hundred, []api.Lot{{}}), 0, w)
		wantBare(t, "101 lists, the last one is not well", got, err, api.ErrBound)
	}
	for _, w := range wrongCounts() {
		for _, l := range [][][]api.Lot{nil, {trade(4)}, {{{}}}, make([][]api.Lot, 100), make([][]api.Lot, 101)} {
			for _, ref := range []int{0, 9} {
				got, err := side.Prices(l, ref, w)
				wantBare(t, fmt.Sprintf("%d workers, %d lists", w, len(l)), got, err, api.ErrShape)
			}
		}
	}
}

// The first in the order of the lists is told, without the place within it.
func TestPricesFaults(t *testing.T) {
	well := trade(5)
	for _, c := range []struct {
		name string
		l    [][]api.Lot
		ref  int
		want error
		at   int
	}{
		{"a lot without an ID", [][]api.Lot{{{}}}, 9, api.ErrBound, 0},
		{"the third lot of the second", [][]api.Lot{well, {buy(1, 5, 5), buy(2, 5, 5), buy(3, 1001, 5)}}, 9, api.ErrBound, 1},
		{"an ID twice", [][]api.Lot{well, well, well, {buy(1, 5, 5), buy(2, 5, 5), sell(1, 5, 5)}}, 9, api.ErrExist, 3},
		{"too many", [][]api.Lot{well, well, many(121)}, 9, api.ErrFull, 2},
		{"many", [][]api.Lot{many(120), many(121), many(120)}, 9, api.ErrFull, 1},
		{"several, a full one first", [][]api.Lot{well, many(121), {{}}, {buy(1, 5, 5), buy(1, 5, 5)}}, 9, api.ErrFull, 1},
		{"several, one twice first", [][]api.Lot{well, well, {buy(1, 5, 5), buy(1, 5, 5)}, many(121), {{}}}, 9, api.ErrExist, 2},
		{"no reference", [][]api.Lot{well, well}, 0, api.ErrBound, 0},
		{"no reference, no lots", [][]api.Lot{nil, well}, 1001, api.ErrBound, 0},
		{"lots are ahead of the reference", [][]api.Lot{many(121), well}, -1, api.ErrFull, 0},
		{"the reference of the first", [][]api.Lot{well, many(121)}, 1<<63 - 1, api.ErrBound, 0},
		{"a reference far below", [][]api.Lot{well}, -1 << 63, api.ErrBound, 0},
	} {
		for _, w := range counts() {
			got, err := side.Prices(c.l, c.ref, w)
			wantFault(t, fmt.Sprintf("%s, %d workers", c.name, w), got, err, c.want, c.at)
		}
	}
	for at := range 100 {
		l := make([][]api.Lot, 100)
		for i := at; i < 100; i++ {
			l[i] = []api.Lot{buy(1, 5, 5), buy(1, 5, 5)}
		}
		got, err := side.Prices(l, 9, 1+at%16)
		wantFault(t, "all from there", got, err, api.ErrExist, at)
	}
}

// P4: lists are only read, and two that are one in memory are no harm.
func TestPricesArguments(t *testing.T) {
	one := trade(30)
	all := append(slices.Clone(one), api.Lot{ID: -1}, api.Lot{ID: -2})
	l := [][]api.Lot{all[:2], all[:1], all[:2], all[:0], all[1:2], all}
	for _, w := range counts() {
		got, err := side.Prices(l[:5], 9, w)
		wantList(t, "shared", got, err, 30, 0, 30, 0, 0)
		got[0], got[4] = -1, -1
		again, err := side.Prices(l[:5], 9, w)
		wantList(t, "again", again, err, 30, 0, 30, 0, 0)
		got, err = side.Prices(l, 9, w)
		wantFault(t, "what is behind", got, err, api.ErrBound, 5)
	}
	if !slices.Equal(all[:2], one) || all[2].ID != -1 || all[3].ID != -2 || len(l[5]) != 4 || len(l[0]) != 2 {
		t.Errorf("lots were written to: %v", all)
	}
}
