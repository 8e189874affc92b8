package play_test

import (
	"fmt"
	"math/rand"
	"sync"
	"testing"

	"gavelhouse/api"
	"gavelhouse/play"
	"gavelhouse/venue"
	"gavelhouse/wire"
)

// draw a script: logins first and often, so that most of it is taken.
func draw(r *rand.Rand, n int) []int {
	var script []int
	for len(script) < n {
		client := r.Intn(6)
		switch k := r.Intn(20); {
		case k == 0:
			script = append(script, login(client))
		case k < 5:
			script = append(script, beat(client))
		case k == 5:
			script = append(script, number(client, 9, r.Intn(1000)))
		case k == 6:
			script = append(script, -r.Intn(1000))
		case k < 10:
			script = append(script, tick())
		case k < 18:
			script = append(script, number(client, 2+r.Intn(6), r.Intn(5000)))
		default:
			script = append(script, r.Intn(1<<40))
		}
	}
	return script
}

// model of a player: it tells a step by counting its parts off, one after the other, and feeds a venue of its own.
type model struct {
	t      *testing.T
	venue  *venue.Venue
	seq    map[int]int // of the last request
	orders map[int][]api.Ask
}

func newModel(t *testing.T, k int) *model {
	t.Helper()
	v, err := venue.New(play.Config(k))
	if err != nil {
		t.Fatal(err)
	}
	return &model{t: t, venue: v, seq: map[int]int{}, orders: map[int][]api.Ask{}}
}

// counter counts parts off a number.
type counter struct{ left int }

func (c *counter) off(many int) int {
	part := c.left % many
	c.left = (c.left - part) / many
	return part
}

func (m *model) run(script []int) []api.Report {
	var reports []api.Report
	for i, v := range script {
		if i < 2000 && v >= 0 {
			reports = append(reports, m.step(v)...)
		}
	}
	return reports
}

func (m *model) step(v int) []api.Report {
	parts := counter{v}
	a := api.Ask{Client: parts.off(6)}
	which := parts.off(10)
	a.Kind = "lhoooooc q"[which]
	ends := parts
	if which == 8 || which == 9 && ends.off(7) > 0 {
		return m.venue.Tick()
	}
	switch a.Kind {
	case 'o':
		a.Item, a.Side, a.Price, a.Qty = parts.off(3), parts.off(2), 90+parts.off(20), 1+parts.off(9)
		a.ID = 1000*a.Client + len(m.orders[a.Client]) + 1
		m.orders[a.Client] = append(m.orders[a.Client], a)
	case 'c':
		a.Item, a.ID = parts.off(3), 1000*a.Client+parts.off(12)+1
	case 'l':
		m.seq[a.Client] = 0
	}
	m.seq[a.Client]++
	a.Seq = m.seq[a.Client]
	if a.Kind == 'q' {
		m.seq[a.Client] = 0
	}
	s, err := wire.Encode(a)
	if err != nil {
		m.t.Fatalf("Encode(%+v): %v", a, err)
	}
	return m.venue.Feed(a.Client, s)
}

// P141: whatever the script is, a play is what its model is; and scripts that are played one after the other are one.
func TestAlways(t *testing.T) {
	seen := map[string]int{}
	for k := range 60 {
		r := rand.New(rand.NewSource(int64(k)))
		whole, parted, m := begin(t, k), begin(t, k), newModel(t, k)
		script := append(loginAll(), draw(r, 1000+r.Intn(1500))...)
		want := m.run(script)
		got := whole.Run(script)
		if fmt.Sprint(got) != fmt.Sprint(want) || state(whole.Venue()) != state(m.venue) {
			t.Fatalf("play %d: told %s, want %s; is\n%swant\n%s", k, told(got), told(want), state(whole.Venue()), state(m.venue))
		}
		var pieces []api.Report
		for l := script[:min(len(script), 2000)]; len(l) > 0; {
			n := 1 + r.Intn(min(len(l), 40))
			pieces = append(pieces, parted.Run(l[:n])...)
			l = l[n:]
		}
		if fmt.Sprint(pieces) != fmt.Sprint(want) || state(parted.Venue()) != state(m.venue) {
			t.Fatalf("play %d: parted, it is another one", k)
		}
		for _, x := range got {
			seen[fmt.Sprintf("%s %d", x.Kind, x.Code)]++
		}
	}
	for name, least := range map[string]int{
		"accepted 0": 1000, "busy 0": 20, "filled 0": 1000, "rests 0": 1000, "gone 0": 500, "refused 6": 100, "refused 11": 100, "refused 12": 100,
	} {
		if seen[name] < least {
			t.Errorf("%s was seen %d times alone", name, seen[name])
		}
	}
}

// P143, P2: the same script makes the same play, however often, and beside however many others; another play is another one.
func TestSameAgain(t *testing.T) {
	script := append(loginAll(), draw(rand.New(rand.NewSource(77)), 1500)...)
	played := func(k int) string {
		p, err := play.New(k)
		if err != nil {
			return err.Error()
		}
		return fmt.Sprint(p.Run(script)) + state(p.Venue()) + play.Sum(p.Venue())
	}
	first := played(4)
	for range 5 {
		if played(4) != first {
			t.Fatal("the same script made another play")
		}
	}
	if played(5) == first {
		t.Error("another seed made the same play")
	}
	beside := make([]string, 12)
	var group sync.WaitGroup
	for i := range beside {
		group.Go(func() { beside[i] = played(4 + i%2) })
	}
	group.Wait()
	for i, s := range beside {
		if (s == first) != (i%2 == 0) {
			t.Errorf("beside others, play %d is another one", i)
		}
	}
}

// P4: what is written into an answer, nobody else sees.
func TestNewMemory(t *testing.T) {
	r := rand.New(rand.NewSource(8))
	p, other := begin(t, 6), begin(t, 6)
	p.Run(loginAll())
	other.Run(loginAll())
	for range 40 {
		script := draw(r, 50)
		got, want := p.Run(script), other.Run(script)
		if told(got) != told(want) {
			t.Fatalf("told %s, want %s", told(got), told(want))
		}
		for i := range got {
			got[i] = api.Report{Client: -1, Kind: "spoilt", ID: -1, Price: -1, Qty: -1, Code: -1}
		}
		for i := range script {
			script[i] = -1
		}
	}
	if state(p.Venue()) != state(other.Venue()) {
		t.Error("what was written into an answer shows")
	}
}
