package play_test

import (
	"fmt"
	"math"
	"slices"
	"testing"

	"gavelhouse/api"
	"gavelhouse/play"
	"gavelhouse/session"
)

func wantSession(t *testing.T, p *play.Player, client int, want session.Session) {
	t.Helper()
	if got := p.Venue().Session(client); got != want {
		t.Errorf("session of client %d is %v, want %v", client, got, want)
	}
}

// An order's parts stand in r one over the other; what is more than all of them begins anew.
func TestOrders(t *testing.T) {
	n := 0
	for item := range 3 {
		for side := range 2 {
			for price := 90; price < 110; price++ {
				for qty := 1; qty < 10; qty++ {
					n++
					client, which := n%6, 2+n%5
					p := begin(t, n)
					r := orderParts(item, side, price, qty) + 1080*(n%4)
					wantTold(t, p.Run([]int{login(client), number(client, which, r)}), fmt.Sprintf("%d accepted %d, 0 0, 0", client, 1000*client+1))
					p.Run(times(3, tick()))
					wantAsked(t, p.Venue(), api.Ask{Kind: 'o', Client: client, Seq: 2, Item: item, Side: side, Price: price, Qty: qty, ID: 1000*client + 1})
				}
			}
		}
	}
}

func TestCancels(t *testing.T) {
	for client := range 6 {
		for item := range 3 {
			for nth := 1; nth <= 12; nth++ {
				id := 1000*client + nth
				p := begin(t, 0)
				script := []int{login(client), cancel(client, item, nth), number(client, 7, item+3*(nth-1)+36), number(client, 7, item+3*(nth-1)+36000)}
				s := fmt.Sprintf("%d accepted %d, 0 0, 0", client, id)
				wantTold(t, p.Run(script), s, s, s)
				// Two of them are in the first batch, and one waits for the second.
				p.Run([]int{tick(), tick(), tick(), beat(client), tick(), tick(), tick()})
				var want []api.Ask
				for seq := 2; seq <= 4; seq++ {
					want = append(want, api.Ask{Kind: 'c', Client: client, Seq: seq, Item: item, ID: id})
				}
				wantAsked(t, p.Venue(), want...)
			}
		}
	}
}

// An order that rests is gone by a cancel, which names it by how many its client placed ahead.
func TestCancelOfOrder(t *testing.T) {
	p := begin(t, 0)
	wantTold(t, p.Run([]int{login(4), order(4, 1, 0, 90, 1), order(4, 2, 0, 91, 2), tick(), tick(), tick(), cancel(4, 2, 2), cancel(4, 2, 1), tick(), tick(), tick()}),
		"4 accepted 4001, 0 0, 0", "4 accepted 4002, 0 0, 0", "4 rests 4001, 90 1, 0", "4 rests 4002, 91 2, 0",
		"4 accepted 4002, 0 0, 0", "4 accepted 4001, 0 0, 0", "4 gone 4002, 91 2, 0", "4 refused 4001, 0 0, 6")
}

// Each kind of step is there for each client, whatever r is.
func TestKinds(t *testing.T) {
	for client := range 6 {
		for r := range 50 {
			for which := range 10 {
				p := begin(t, 0)
				p.Run([]int{login(client), tick(), number(client, which, r)})
				v := p.Venue()
				now, next, last, wait := 1, 3, 1, 0
				switch {
				case which == 0:
					next, last = 2, 0 // it was on
				case which >= 2 && which <= 7:
					wait = 1
				case which == 8, which == 9 && r%7 > 0:
					now, next, last = 2, 2, 0
				case which == 9:
					next, last = 0, 0
				}
				if v.Now() != now || v.Wait(client) != wait {
					t.Errorf("client %d, %d, r %d: now %d, %d wait, want %d, %d", client, which, r, v.Now(), v.Wait(client), now, wait)
				}
				wantSession(t, p, client, session.Session{On: next > 0, Next: next, Last: last})
				for other := range 6 {
					if other != client {
						wantSession(t, p, other, session.Session{})
					}
				}
			}
		}
	}
}

// What is told of requests of a client that is not on; numbers go on all the same, and a login begins anew.
func TestAheadOfLogin(t *testing.T) {
	for client := range 6 {
		p := begin(t, 0)
		s := fmt.Sprintf("%d refused 0, 0 0, 11", client)
		wantTold(t, p.Run([]int{beat(client), beat(client), logout(client), beat(client), order(client, 0, 0, 90, 1), cancel(client, 0, 7)}),
			s, s, s, s, fmt.Sprintf("%d refused %d, 0 0, 11", client, 1000*client+1), fmt.Sprintf("%d refused %d, 0 0, 11", client, 1000*client+7))
		wantTold(t, p.Run([]int{login(client), beat(client), beat(client)}))
		wantSession(t, p, client, session.Session{On: true, Next: 4})
	}
}

// A login is number 1, and the next is 2, also if it is refused: what comes then is refused until the numbers meet.
func TestLoginTwice(t *testing.T) {
	p := begin(t, 0)
	wantTold(t, p.Run([]int{login(1), beat(1), beat(1), login(1)}), "1 refused 0, 0 0, 11")
	wantTold(t, p.Run([]int{beat(1), order(1, 0, 0, 90, 1)}), "1 refused 0, 0 0, 12", "1 refused 1001, 0 0, 12")
	wantSession(t, p, 1, session.Session{On: true, Next: 4})
	wantTold(t, p.Run([]int{order(1, 0, 0, 90, 1)}), "1 accepted 1002, 0 0, 0")
	wantSession(t, p, 1, session.Session{On: true, Next: 5})
}

// Behind a logout the next number is 1; what is not a login is refused, and a login is taken.
func TestLogout(t *testing.T) {
	p := begin(t, 0)
	wantTold(t, p.Run([]int{login(2), beat(2), logout(2), beat(2), login(2), beat(2)}), "2 refused 0, 0 0, 11")
	wantSession(t, p, 2, session.Session{On: true, Next: 3})
}

// Behind a logout that is refused, too, it is 1.
func TestLogoutRefused(t *testing.T) {
	p := begin(t, 0)
	p.Run([]int{login(2), beat(2), login(2)}) // 3 is awaited, and 2 is next
	wantTold(t, p.Run([]int{logout(2)}), "2 refused 0, 0 0, 12")
	wantTold(t, p.Run([]int{beat(2), beat(2)}), "2 refused 0, 0 0, 12", "2 refused 0, 0 0, 12")
	wantTold(t, p.Run([]int{beat(2)}))
	wantSession(t, p, 2, session.Session{On: true, Next: 4})
}

// Who was late is not told of it: its numbers go on, until it logs in.
func TestLate(t *testing.T) {
	p := begin(t, 0)
	p.Run([]int{login(3), order(3, 0, 0, 90, 1)})
	wantTold(t, p.Run(times(6, tick())), "3 rests 3001, 90 1, 0", "3 gone 3001, 90 1, 0")
	wantTold(t, p.Run([]int{beat(3), login(3), order(3, 0, 0, 90, 1)}), "3 refused 0, 0 0, 11", "3 accepted 3002, 0 0, 0")
}

// Numbers and orders are a client's own.
func TestClientsApart(t *testing.T) {
	p := begin(t, 0)
	p.Run(loginAll())
	p.Run([]int{beat(0), beat(0), beat(5), order(2, 0, 0, 90, 1), order(2, 1, 0, 90, 1), order(4, 0, 0, 90, 1), tick(), tick(), tick()})
	for client, next := range []int{4, 2, 4, 2, 3, 3} {
		wantSession(t, p, client, session.Session{On: true, Next: next})
	}
	wantAsked(t, p.Venue(),
		api.Ask{Kind: 'o', Client: 2, Seq: 2, Price: 90, Qty: 1, ID: 2001},
		api.Ask{Kind: 'o', Client: 2, Seq: 3, Item: 1, Price: 90, Qty: 1, ID: 2002},
		api.Ask{Kind: 'o', Client: 4, Seq: 2, Price: 90, Qty: 1, ID: 4001})
}

// Each order counts: those that are refused or find no room, and those ahead of a logout.
func TestOrdersCount(t *testing.T) {
	p := begin(t, 0)
	wantTold(t, p.Run([]int{order(0, 0, 0, 90, 1), login(0), order(0, 0, 0, 90, 1)}), "0 refused 1, 0 0, 11", "0 accepted 2, 0 0, 0")
	wantTold(t, p.Run(times(6, order(0, 2, 1, 109, 9))),
		"0 accepted 3, 0 0, 0", "0 accepted 4, 0 0, 0", "0 accepted 5, 0 0, 0", "0 accepted 6, 0 0, 0", "0 accepted 7, 0 0, 0", "0 busy 8, 0 0, 0")
	wantTold(t, p.Run([]int{cancel(0, 2, 1), logout(0), login(0), order(0, 0, 0, 90, 1)}), "0 busy 1, 0 0, 0", "0 accepted 9, 0 0, 0")
}

// Behind 1000 orders of a client its IDs are those of the next one.
func TestManyOrders(t *testing.T) {
	p := begin(t, 0)
	p.Run(times(999, order(1, 0, 0, 90, 1)))
	wantTold(t, p.Run([]int{login(1), order(1, 0, 0, 90, 1), order(1, 0, 0, 91, 1)}), "1 accepted 2000, 0 0, 0", "1 accepted 2001, 0 0, 0")
	wantTold(t, p.Run([]int{login(2), order(2, 0, 0, 92, 1), tick(), tick(), tick()}),
		"2 accepted 2001, 0 0, 0", "2 refused 2001, 0 0, 7", "1 rests 2000, 90 1, 0", "1 rests 2001, 91 1, 0")
}

func TestBelowZero(t *testing.T) {
	p := begin(t, 0)
	p.Run([]int{login(0), login(1), order(0, 0, 0, 90, 1)})
	ahead := state(p.Venue())
	wantTold(t, p.Run(nil))
	wantTold(t, p.Run([]int{}))
	for v := -1; v > -200; v-- {
		wantTold(t, p.Run([]int{v, math.MinInt - v, -tick(), -6 * tick()}))
	}
	if state(p.Venue()) != ahead {
		t.Errorf("numbers below 0 made of\n%sthis:\n%s", ahead, state(p.Venue()))
	}
}

// The greatest numbers there are, told by hand.
func TestGreatNumbers(t *testing.T) {
	p := begin(t, 0)
	p.Run([]int{
		9223372036854775801, // a login of client 1
		9223372036854775807, // a beat
		9223372036854775777, // an order
		9223372036854775783, // a cancel
		9223372036854775805, // a login of client 5
		9223372036854775757, // an order
		9223372036854775799, // a tick, as r modulo 7 is 6
		9223372036854775788, // a tick
		9223372036854775794, // a tick
	})
	wantAsked(t, p.Venue(),
		api.Ask{Kind: 'o', Client: 1, Seq: 3, Item: 2, Side: 1, Price: 104, Qty: 5, ID: 1001},
		api.Ask{Kind: 'c', Client: 1, Seq: 4, Item: 2, ID: 1010},
		api.Ask{Kind: 'o', Client: 5, Seq: 2, Item: 2, Side: 1, Price: 104, Qty: 5, ID: 5001})
	if p.Venue().Now() != 3 {
		t.Errorf("now %d", p.Venue().Now())
	}
	for v := math.MaxInt; v > math.MaxInt-500; v-- {
		begin(t, 1).Run([]int{v, v})
	}
}

// Of a script that is too long the first 2000 numbers count, those below 0 among them; each Run has as many.
func TestMaxScript(t *testing.T) {
	for _, c := range []struct{ ahead, ticks, want int }{
		{0, 1999, 1999}, {0, 2000, 2000}, {0, 2001, 2000}, {0, 9000, 2000}, {1999, 2, 1}, {2000, 2, 0}, {1000, 1000, 1000}, {1000, 1001, 1000},
	} {
		p := begin(t, 0)
		p.Run(slices.Concat(times(c.ahead, -1), times(c.ticks, tick())))
		if now := p.Venue().Now(); now != c.want {
			t.Errorf("%d that are nothing and %d ticks: now %d, want %d", c.ahead, c.ticks, now, c.want)
		}
	}
	p := begin(t, 0)
	p.Run(times(2000, tick()))
	p.Run(times(2000, tick()))
	if now := p.Venue().Now(); now != 4000 {
		t.Errorf("two scripts: now %d", now)
	}
}

// P3, P4: a script is only read, and what lies behind its length is not even that.
func TestScriptIsRead(t *testing.T) {
	script := append(loginAll(), order(0, 0, 0, 99, 3), order(1, 0, 1, 95, 2), tick(), tick(), tick(), -5, tick())
	kept := slices.Clone(script)
	p := begin(t, 0)
	p.Run(script[:len(script)-1])
	if !slices.Equal(script, kept) {
		t.Errorf("the script became %v, from %v", script, kept)
	}
	if p.Venue().Now() != 3 {
		t.Errorf("now %d: what is behind the script was played", p.Venue().Now())
	}
}

// Where power is cut, nothing more is told, and the play ends well all the same.
func TestDown(t *testing.T) {
	for cut := range 200 {
		p := begin(t, 0)
		if err := p.Venue().Tape().Cut(cut); err != nil {
			t.Fatal(err)
		}
		l := p.Run([]int{login(0), order(0, 0, 0, 90, 1), tick(), tick(), tick(), order(0, 0, 0, 91, 1), tick(), tick(), tick(), beat(0), order(0, 0, 0, 92, 1)})
		want := []string{"0 accepted 1, 0 0, 0"}
		if cut >= 75 { // bytes of a record: 12 around the text, the number and a colon, a blank and 60 digits of a frame
			want = append(want, "0 rests 1, 90 1, 0", "0 accepted 2, 0 0, 0")
		}
		if cut >= 150 {
			want = append(want, "0 rests 2, 91 1, 0", "0 accepted 3, 0 0, 0")
		}
		wantTold(t, l, want...)
	}
}

// P1: a play goes on until its tape is full, and then says nothing.
func TestTapeIsFull(t *testing.T) {
	p := begin(t, 0)
	script := loginAll()
	for len(script) < 1990 {
		for client := range 6 {
			script = append(script, order(client, len(script)%3, client%2, 100, 1), cancel(client, 0, 1))
		}
		script = append(script, tick(), tick(), tick())
	}
	for n := 0; !p.Venue().Down(); n++ {
		if n == 100 {
			t.Fatalf("%d bytes on the tape", len(p.Venue().Tape().Bytes()))
		}
		p.Run(script)
	}
	if n := len(p.Venue().Tape().Bytes()); n < 1<<20-800 {
		t.Errorf("down with %d bytes on the tape", n)
	}
	ahead := state(p.Venue())
	wantTold(t, p.Run(script))
	if state(p.Venue()) != ahead {
		t.Error("a venue that is down goes on")
	}
}
