package wire_test

import (
	"math/rand"
	"slices"
	"strings"
	"testing"

	"gavelhouse/api"
	"gavelhouse/wire"
)

// mixed: a stream of good and bad frames with some bytes behind, and what is to come of it.
func mixed(t *testing.T) (string, []wire.Got) {
	var s string
	var want []wire.Got
	for _, a := range []api.Ask{topLogin, topPlace, topCancel} {
		s += encoded(t, a)
		want = append(want, wire.Got{Ask: a})
	}
	body := encoded(t, topPlace)[:26]
	for _, c := range []struct {
		frame string
		code  int
	}{
		{sealed(replaced(body, 1, "\x06")), 2},
		{sealed(replaced(body, 25, "\x01")), 3},
		{sealed(replaced(body, 0, "x")), 4},
		{body + "\x00\x00\x00\x00", 5},
	} {
		s += c.frame
		want = append(want, wire.Got{Code: c.code})
	}
	s += encoded(t, topLogout)
	want = append(want, wire.Got{Ask: topLogout})
	return s + "left over", want
}

func wantGot(t *testing.T, got, want []wire.Got, r *wire.Reader, left int) {
	t.Helper()
	if !slices.Equal(got, want) || r.Left() != left {
		t.Errorf("got %+v and %d left, want %+v and %d", got, r.Left(), want, left)
	}
}

func TestReaderOfNothing(t *testing.T) {
	var r wire.Reader
	wantGot(t, nil, nil, &r, 0)
	for range 3 {
		wantGot(t, r.Feed(""), nil, &r, 0)
	}
}

func TestReaderAtOnce(t *testing.T) {
	s, want := mixed(t)
	var r wire.Reader
	wantGot(t, r.Feed(s), want, &r, 9)
	wantGot(t, r.Feed(""), nil, &r, 9)
}

func TestReaderOfOneByteLessAndMore(t *testing.T) {
	s := encoded(t, topPlace)
	one := []wire.Got{{Ask: topPlace}}
	var less, more wire.Reader
	wantGot(t, less.Feed(s[:29]), nil, &less, 29)
	wantGot(t, less.Feed(s[29:]), one, &less, 0)
	wantGot(t, more.Feed(s+s[:1]), one, &more, 1)
	wantGot(t, more.Feed(s[1:]), one, &more, 0)
}

// A frame is told with its last byte, neither sooner nor later.
func TestReaderByteByByte(t *testing.T) {
	s, want := mixed(t)
	var r wire.Reader
	for i := range len(s) {
		got := r.Feed(s[i : i+1])
		if n := i + 1; n%30 == 0 {
			wantGot(t, got, want[n/30-1:n/30], &r, 0)
		} else {
			wantGot(t, got, nil, &r, n%30)
		}
	}
}

func TestReaderOfTwoOrThreeParts(t *testing.T) {
	s, want := mixed(t)
	for i := range len(s) + 1 {
		for j := i; j <= len(s); j++ {
			var r wire.Reader
			got := r.Feed(s[:i])
			got = append(got, r.Feed(s[i:j])...)
			wantGot(t, append(got, r.Feed(s[j:])...), want, &r, 9)
		}
	}
}

func TestReaderOfAnyParts(t *testing.T) {
	s, want := mixed(t)
	chance := rand.New(rand.NewSource(5))
	for range 500 {
		var r wire.Reader
		var got []wire.Got
		for rest := s; rest != ""; {
			n := min(chance.Intn(70), len(rest))
			got = append(got, r.Feed(rest[:n])...)
			rest = rest[n:]
		}
		wantGot(t, got, want, &r, 9)
	}
}

// Frames are told by their places alone: bytes of none shift what follows.
func TestReaderDoesNotSearch(t *testing.T) {
	s := encoded(t, topPlace)
	var r wire.Reader
	wantGot(t, r.Feed("x"+s+s[:29]), []wire.Got{{Code: 5}, {Code: 5}}, &r, 0)
	wantGot(t, r.Feed(s), []wire.Got{{Ask: topPlace}}, &r, 0)
}

func TestReaderOfAnyBytes(t *testing.T) {
	var r wire.Reader
	got := r.Feed(strings.Repeat("\xff", 1<<20))
	if len(got) != 1<<20/30 || r.Left() != 1<<20%30 {
		t.Fatal(len(got), r.Left())
	}
	for _, g := range got {
		if g != (wire.Got{Code: 5}) {
			t.Fatal(g)
		}
	}
}

// Two readers, and a reader and its copy, go their own ways.
func TestReadersAreApart(t *testing.T) {
	s, z := encoded(t, topPlace), encoded(t, topCancel)
	var a, b wire.Reader
	a.Feed(s[:10])
	b.Feed(z[:20])
	c := a
	c.Feed(s[10:15])
	wantGot(t, b.Feed(z[20:]), []wire.Got{{Ask: topCancel}}, &b, 0)
	wantGot(t, a.Feed(s[10:]), []wire.Got{{Ask: topPlace}}, &a, 0)
	wantGot(t, c.Feed(s[15:]), []wire.Got{{Ask: topPlace}}, &c, 0)
}

func TestReaderAnswersNewMemory(t *testing.T) {
	s := encoded(t, topPlace)
	var r wire.Reader
	first := r.Feed(s)
	first[0] = wire.Got{Code: 99}
	second := r.Feed(s)
	wantGot(t, second, []wire.Got{{Ask: topPlace}}, &r, 0)
	_ = append(first[:0], wire.Got{Code: 98})
	wantGot(t, second, []wire.Got{{Ask: topPlace}}, &r, 0)
}
