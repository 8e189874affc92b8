package venue_test

import (
	"fmt"
	"math/rand"
	"testing"

	"gavelhouse/api"
	"gavelhouse/band"
	"gavelhouse/session"
	"gavelhouse/tape"
	"gavelhouse/venue"
)

// pair: a venue and its model, and how often each thing was told.
type pair struct {
	v    *venue.Venue
	m    *model
	seen map[string]int
}

func (p pair) wantTold(t *testing.T, got, want []api.Report) {
	t.Helper()
	if fmt.Sprint(got) != fmt.Sprint(want) {
		t.Fatalf("told %s, want %s", told(got), told(want))
	}
	for _, r := range got {
		p.seen[fmt.Sprintf("%s %d", r.Kind, r.Code)]++
	}
}

func (p pair) wantSame(t *testing.T) {
	t.Helper()
	v, m := p.v, p.m
	if v.Now() != m.now || v.Batches() != m.batches || v.Down() != m.down {
		t.Fatalf("now %d, batches %d, down %v, want %d, %d, %v", v.Now(), v.Batches(), v.Down(), m.now, m.batches, m.down)
	}
	for client := range 6 {
		wantSession(t, v, client, session.Session{On: m.on[client], Next: m.next[client], Last: m.last[client]})
		wantWait(t, v, client, m.wait(client))
		if got, want := v.Floor().Purse().Of(client), m.floor.Purse().Of(client); got != want {
			t.Errorf("client %d has %v, want %v", client, got, want)
		}
	}
	for item := range 3 {
		wantLots(t, v, item, m.floor.Book(item).Lots()...)
		if got, want := v.Floor().Band(item), m.floor.Band(item); got != want {
			t.Errorf("band of item %d: %v, want %v", item, got, want)
		}
	}
}

// wantTape: what was told is on it, batch by batch.
func (p pair) wantTape(t *testing.T) {
	t.Helper()
	got, _ := tape.Read(p.v.Tape().Bytes())
	if fmt.Sprintf("%q", got) != fmt.Sprintf("%q", p.m.records) {
		t.Fatalf("on the tape: %q, want %q", got, p.m.records)
	}
}

// drawAsk of a client: few IDs and prices, so that much meets; mostly with the number that is awaited.
func (p pair) drawAsk(r *rand.Rand, client int) (api.Ask, int) {
	id := 1 + r.Intn(25)
	if r.Intn(60) == 0 {
		id = 0
	}
	seq := p.m.next[client]
	if r.Intn(25) == 0 {
		seq = r.Intn(20)
	}
	price, qty := 94+r.Intn(13), 1+r.Intn(6)
	if r.Intn(20) == 0 {
		price, qty = 70+r.Intn(60), 100+r.Intn(200)
	}
	switch k := r.Intn(40); {
	case !p.m.on[client] && k < 36, k == 0:
		return login(), 1
	case k < 4:
		return beat(), seq
	case k == 4:
		return logout(), seq
	case k < 13:
		lots := p.m.floor.Book(r.Intn(3)).Lots()
		if len(lots) > 0 && k < 9 {
			id = lots[r.Intn(len(lots))].ID
		}
		return cancel(r.Intn(3), id), seq
	}
	return order(r.Intn(3), r.Intn(2), price, qty, id), seq
}

// drawBytes of a client: a frame; some are of another client, or are none.
func (p pair) drawBytes(t *testing.T, r *rand.Rand, client int) string {
	t.Helper()
	a, seq := p.drawAsk(r, client)
	from := client
	if r.Intn(60) == 0 {
		from = r.Intn(6)
	}
	s := []byte(frame(t, from, seq, a))
	if r.Intn(60) == 0 {
		s[r.Intn(30)] ^= byte(1 + r.Intn(255))
	}
	if r.Intn(200) == 0 {
		return string(s[:r.Intn(30)])
	}
	return string(s)
}

func (p pair) step(t *testing.T, r *rand.Rand) {
	t.Helper()
	if r.Intn(8) == 0 {
		on := p.m.on
		p.wantTold(t, p.v.Tick(), p.m.tick())
		for client := range on {
			if on[client] && !p.m.on[client] {
				p.seen["late"]++
			}
		}
		return
	}
	client := r.Intn(6)
	if r.Intn(3) > 0 {
		client = r.Intn(4) // others fall silent more often
	}
	s := p.drawBytes(t, r, client)
	if r.Intn(10) > 0 {
		p.wantTold(t, p.v.Feed(client, s), p.m.feed(client, s))
		return
	}
	for n := range []byte(s) {
		p.wantTold(t, p.v.Feed(client, s[n:n+1]), p.m.feed(client, s[n:n+1]))
	}
}

// P121 to P124: whatever is fed, a venue is what its model is; and where power is cut, both end.
func TestAlways(t *testing.T) {
	seen := map[string]int{}
	for k := range 60 {
		r := rand.New(rand.NewSource(int64(k)))
		c := venue.Config{Seed: r.Uint32(), Rule: band.Rule{Width: 2 + r.Intn(9), Halt: 1 + r.Intn(2)}, Ref: 100, Cash: 4000, Stock: 40}
		p := pair{newVenue(t, c), newModel(c), seen}
		if k%3 == 0 {
			p.m.room = r.Intn(30000)
			if err := p.v.Tape().Cut(p.m.room); err != nil {
				t.Fatal(err)
			}
		}
		for range 1200 {
			p.step(t, r)
			p.wantSame(t)
			if t.Failed() {
				t.Fatal("play", k)
			}
		}
		p.wantTape(t)
		if p.v.Down() {
			seen["down"]++
		}
	}
	for name, least := range map[string]int{
		"accepted 0": 1000, "busy 0": 100, "filled 0": 1000, "rests 0": 1000, "gone 0": 1000, "late": 100, "down": 10,
		"refused 2": 20, "refused 3": 100, "refused 5": 100, "refused 6": 100, "refused 7": 100, "refused 10": 100, "refused 11": 100, "refused 12": 100,
	} {
		if seen[name] < least {
			t.Errorf("%s was seen %d times alone", name, seen[name])
		}
	}
}

// P2: the same calls make the same answers.
func TestSameAgain(t *testing.T) {
	first := ""
	for range 5 {
		v := newVenue(t, plainConfig)
		s := fmt.Sprint(busyVenue(t, v, 60)) + state(v)
		if first == "" {
			first = s
		}
		if s != first {
			t.Fatal("the same calls answered otherwise")
		}
	}
}
