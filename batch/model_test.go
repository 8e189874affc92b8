package batch_test

import (
	"slices"

	"gavelhouse/api"
	"gavelhouse/band"
	"gavelhouse/batch"
	"gavelhouse/purse"
)

// model of a floor, made of lists alone: what is held is not kept, but summed from what rests.
type model struct {
	rule  band.Rule
	bands [3]band.Band
	lots  [3][]api.Lot
	cash  [6]int
	stock [6]stocks
}

func newModel(r band.Rule, ref, cash, stock int) *model {
	m := &model{rule: r}
	for n := range m.bands {
		m.bands[n].Ref = ref
	}
	for client := range m.cash {
		m.cash[client], m.stock[client] = cash, stocks{stock, stock, stock}
	}
	return m
}

func (m *model) has(client int) purse.Has {
	h := purse.Has{Cash: m.cash[client], Stock: m.stock[client]}
	for n, lots := range m.lots {
		for _, l := range lots {
			switch {
			case l.Owner == client && l.Side == api.Buy:
				h.Held += l.Price * l.Qty
			case l.Owner == client:
				h.Kept[n] += l.Qty
			}
		}
	}
	return h
}

func (m *model) place(a api.Ask) error {
	l := api.Lot{ID: a.ID, Owner: a.Client, Side: a.Side, Price: a.Price, Qty: a.Qty}
	for _, x := range m.lots[a.Item] {
		if x.ID == l.ID {
			return api.ErrExist
		}
	}
	if len(m.lots[a.Item]) == 60 {
		return api.ErrFull
	}
	next := *m
	next.lots[a.Item] = append(slices.Clone(m.lots[a.Item]), l)
	if h := next.has(a.Client); h.Held > h.Cash || h.Kept[a.Item] > h.Stock[a.Item] {
		return api.ErrPoor
	}
	*m = next
	return nil
}

// part the lots of an item: those that are so go.
func (m *model) part(n int, isSo func(api.Lot) bool) (gone []api.Lot) {
	var stay []api.Lot
	for _, l := range m.lots[n] {
		if isSo(l) {
			gone = append(gone, l)
		} else {
			stay = append(stay, l)
		}
	}
	m.lots[n] = stay
	return gone
}

func (m *model) cancel(a api.Ask) (api.Lot, error) {
	gone := m.part(a.Item, func(l api.Lot) bool { return l.ID == a.ID && l.Owner == a.Client })
	if len(gone) == 0 {
		return api.Lot{}, api.ErrNone
	}
	return gone[0], nil
}

func (m *model) drop(client int) (gone []api.Lot) {
	for n := range m.lots {
		gone = append(gone, m.part(n, func(l api.Lot) bool { return l.Owner == client })...)
	}
	return gone
}

// offered at a price: what is bought there, and what is sold.
func offered(lots []api.Lot, price int) (sums [2]int) {
	for _, l := range lots {
		if l.Side == api.Buy && l.Price >= price || l.Side == api.Sell && l.Price <= price {
			sums[l.Side] += l.Qty
		}
	}
	return sums
}

func size(x int) int { return max(x, -x) }

// candidate: of all prices, sorted by what counts, the first; 0, 0 if none trades.
func (m *model) candidate(n int) (price, volume int) {
	type row struct{ volume, left, away, price int }
	var best row
	for p := 1; p <= 1000; p++ {
		s := offered(m.lots[n], p)
		r := row{-min(s[0], s[1]), size(s[0] - s[1]), size(p - m.bands[n].Ref), p}
		if r.volume < 0 && slices.Compare([]int{r.volume, r.left, r.away, r.price}, []int{best.volume, best.left, best.away, best.price}) < 0 {
			best = r
		}
	}
	return best.price, -best.volume
}

// turn a band by one batch.
func (m *model) turn(n, price, volume int) (open bool) {
	b := &m.bands[n]
	if b.Left > 0 {
		b.Left--
		if b.Left == 0 && volume > 0 {
			b.Ref = price
		}
		return false
	}
	if volume > 0 && size(price-b.Ref)*100 > b.Ref*m.rule.Width {
		b.Left = m.rule.Halt
		return false
	}
	if volume > 0 {
		b.Ref = price
	}
	return true
}

func shuffled(n int, x uint32) []int {
	if x == 0 {
		x = 2463534242
	}
	order := make([]int, n)
	for i := range order {
		order[i] = i
	}
	for i := n - 1; i >= 1; i-- {
		x ^= x << 13
		x ^= x >> 17
		x ^= x << 5
		j := x % uint32(i+1)
		order[i], order[j] = order[j], order[i]
	}
	return order
}

// sharing: who of a side gets how much of a volume.
func (m *model) sharing(n, side, price, volume int, seed uint32) (fills []api.Fill) {
	best, step := 1000, -1 // from the best price of the side to the batch's own
	if side == api.Sell {
		best, step = 1, 1
	}
	for p := best; volume > 0; p += step {
		var level []api.Lot
		sum := 0
		for _, l := range m.lots[n] {
			if l.Side == side && l.Price == p {
				level, sum = append(level, l), sum+l.Qty
			}
		}
		order := make([]int, len(level))
		for i := range order {
			order[i] = i
		}
		if sum > volume {
			order = shuffled(len(level), seed)
		}
		for _, i := range order {
			if got := min(level[i].Qty, volume); got > 0 {
				fills = append(fills, api.Fill{ID: level[i].ID, Qty: got})
				volume -= got
			}
		}
		if p == price {
			break
		}
	}
	return fills
}

func (m *model) run(n int, seed uint32) batch.Result {
	r := batch.Result{}
	r.Price, r.Volume = m.candidate(n)
	r.Open = m.turn(n, r.Price, r.Volume)
	if !r.Open || r.Volume == 0 {
		return r
	}
	r.Fills = append(m.sharing(n, api.Buy, r.Price, r.Volume, seed), m.sharing(n, api.Sell, r.Price, r.Volume, seed+1)...)
	for _, x := range r.Fills {
		for i := range m.lots[n] {
			l := &m.lots[n][i]
			if l.ID != x.ID {
				continue
			}
			way := 1 - 2*l.Side // who buys gets stock and gives cash; who sells, the other way
			l.Qty -= x.Qty
			m.stock[l.Owner][n] += way * x.Qty
			m.cash[l.Owner] -= way * x.Qty * r.Price
		}
	}
	m.part(n, func(l api.Lot) bool { return l.Qty == 0 })
	return r
}
