package venue_test

import (
	"fmt"
	"slices"
	"strings"

	"gavelhouse/api"
	"gavelhouse/batch"
	"gavelhouse/plain"
	"gavelhouse/venue"
	"gavelhouse/wire"
)

// model of a venue by the words of the document: a floor, and beside it lists alone.
type model struct {
	floor        *batch.Floor
	seed         uint32
	now, batches int
	down         bool
	room         int // bytes that the tape takes until power is off
	on           [6]bool
	next, last   [6]int
	bytes        [6]string
	waiting      []api.Ask // of all clients, in the order in which they came
	drops        []int
	records      []string
}

func newModel(c venue.Config) *model {
	f, err := batch.New(c.Rule, c.Ref, c.Cash, c.Stock)
	if err != nil {
		panic(err)
	}
	return &model{floor: f, seed: c.Seed, room: 1 << 20}
}

func number(err error) int {
	code, _ := plain.Code(err)
	return code
}

// part what waits: the first of a client, as many as there are up to most.
func (m *model) part(client, most int) (taken []api.Ask) {
	var rest []api.Ask
	for _, a := range m.waiting {
		if a.Client == client && len(taken) < most {
			taken = append(taken, a)
		} else {
			rest = append(rest, a)
		}
	}
	m.waiting = rest
	return taken
}

func (m *model) wait(client int) (n int) {
	for _, a := range m.waiting {
		if a.Client == client {
			n++
		}
	}
	return n
}

func (m *model) feed(client int, s string) (reports []api.Report) {
	if m.down || client < 0 || client > 5 {
		return nil
	}
	m.bytes[client] += s
	for len(m.bytes[client]) >= 30 {
		a, err := wire.Decode(m.bytes[client][:30])
		m.bytes[client] = m.bytes[client][30:]
		kind, code := "refused", number(err)
		if err == nil {
			kind, code = m.hear(client, a)
		}
		if kind != "" {
			reports = append(reports, api.Report{Client: client, Kind: kind, ID: a.ID, Code: code})
		}
	}
	return reports
}

func (m *model) hear(client int, a api.Ask) (kind string, code int) {
	switch {
	case a.Client != client:
		return "refused", 3
	case (a.Kind == api.Login) == m.on[client]:
		return "refused", 11
	case a.Kind == api.Login && a.Seq != 1, a.Kind != api.Login && a.Seq != m.next[client]:
		return "refused", 12
	}
	m.on[client], m.next[client], m.last[client] = true, a.Seq+1, m.now
	switch {
	case a.Kind == api.Logout:
		m.leave(client)
	case (a.Kind == api.Place || a.Kind == api.Cancel) && m.wait(client) == 6:
		return "busy", 0
	case a.Kind == api.Place || a.Kind == api.Cancel:
		m.waiting = append(m.waiting, a)
		return "accepted", 0
	}
	return "", 0
}

func (m *model) leave(client int) {
	m.on[client], m.next[client], m.last[client] = false, 0, 0
	m.part(client, 6)
	m.drops = append(m.drops, client)
}

func (m *model) tick() []api.Report {
	if m.down {
		return nil
	}
	m.now++
	for client := range 6 {
		if m.on[client] && m.now-m.last[client] > 5 {
			m.leave(client)
			m.bytes[client] = ""
		}
	}
	if m.now%3 > 0 {
		return nil
	}
	var asks []api.Ask
	for n := range 6 {
		asks = append(asks, m.part((m.batches+n)%6, 2)...)
	}
	slices.Sort(m.drops)
	drops := slices.Compact(m.drops)
	m.drops = nil
	if !m.write(drops, asks) {
		m.down = true
		return nil
	}
	reports := append(m.dropped(drops), m.answered(asks)...)
	for item := range 3 {
		reports = append(reports, m.traded(item, asks)...)
	}
	m.batches++
	return reports
}

func (m *model) write(drops []int, asks []api.Ask) bool {
	s := fmt.Sprint(drops)
	s = fmt.Sprintf("%d:%s", m.batches, strings.ReplaceAll(s[1:len(s)-1], " ", ","))
	for _, a := range asks {
		f, _ := wire.Encode(a)
		s += fmt.Sprintf(" %x", f)
	}
	m.room -= len(s) + 12
	if m.room < 0 {
		return false
	}
	m.records = append(m.records, s)
	return true
}

func lotReport(kind string, l api.Lot) api.Report {
	return api.Report{Client: l.Owner, Kind: kind, ID: l.ID, Price: l.Price, Qty: l.Qty}
}

func (m *model) dropped(drops []int) (reports []api.Report) {
	for _, client := range drops {
		for _, l := range m.floor.Drop(client) {
			reports = append(reports, lotReport("gone", l))
		}
	}
	return reports
}

// answered requests; those that are refused are marked as none.
func (m *model) answered(asks []api.Ask) (reports []api.Report) {
	for i, a := range asks {
		var l api.Lot
		var err error
		if a.Kind == api.Place {
			err = m.floor.Place(a)
		} else if l, err = m.floor.Cancel(a); err == nil {
			reports = append(reports, lotReport("gone", l))
		}
		if err != nil {
			reports = append(reports, api.Report{Client: a.Client, Kind: "refused", ID: a.ID, Code: number(err)})
			asks[i] = api.Ask{}
		}
	}
	return reports
}

func (m *model) traded(item int, asks []api.Ask) (reports []api.Report) {
	ahead := m.floor.Book(item).Lots()
	r, err := m.floor.Run(item, m.seed+uint32(m.batches)*3+uint32(item))
	if err != nil {
		panic(err)
	}
	for _, x := range r.Fills {
		at := slices.IndexFunc(ahead, func(l api.Lot) bool { return l.ID == x.ID })
		reports = append(reports, api.Report{Client: ahead[at].Owner, Kind: "filled", ID: x.ID, Price: r.Price, Qty: x.Qty})
	}
	isPlace := func(a api.Ask) bool { return a.Kind == api.Place && a.Item == item }
	for i, a := range asks {
		later := slices.ContainsFunc(asks[i+1:], func(b api.Ask) bool { return isPlace(b) && b.ID == a.ID })
		l, is := m.floor.Book(item).Get(a.ID)
		if isPlace(a) && !later && is {
			reports = append(reports, lotReport("rests", l))
		}
	}
	return reports
}
