package script

import (
	"math"
	"strconv"
	"strings"

	"gavelhouse/api"
	"gavelhouse/digits"
	"gavelhouse/play"
	"gavelhouse/recover"
)

const (
	done     = "ok"
	nothing  = "nothing"
	maxTicks = 50
)

// command: the numbers that it takes, whether a text stands behind them, and what it does.
type command struct {
	takes []span
	text  bool
	do    func(p *player, said words) (string, error)
}

// span that a number is within, both ends among it.
type span struct{ low, high int }

// words of a line, behind its command's name.
type words struct {
	numbers []int
	text    string
}

// commands by their names.
func commands() map[string]command {
	number := span{0, math.MaxInt} // its digits are bound enough
	client, item := span{0, api.Clients - 1}, span{0, api.Items - 1}
	price, qty := span{1, api.MaxPrice}, span{1, api.MaxQty}
	byClient, byItem, byOrder := []span{client}, []span{item}, []span{client, item, number, price, qty}
	return map[string]command{
		"login":   {takes: byClient, do: sends(word(api.Login))},
		"beat":    {takes: byClient, do: sends(word(api.Beat))},
		"logout":  {takes: byClient, do: sends(word(api.Logout))},
		"buy":     {takes: byOrder, do: sends(order(api.Buy))},
		"sell":    {takes: byOrder, do: sends(order(api.Sell))},
		"cancel":  {takes: []span{client, item, number}, do: sends(cancel)},
		"tick":    {takes: []span{{1, maxTicks}}, do: (*player).tick},
		"bytes":   {takes: byClient, text: true, do: (*player).bytes},
		"book":    {takes: byItem, do: (*player).book},
		"band":    {takes: byItem, do: (*player).band},
		"has":     {takes: byClient, do: (*player).has},
		"cut":     {takes: []span{number}, do: (*player).cut},
		"again":   {do: (*player).again},
		"batches": {do: (*player).batches},
	}
}

// sends a request, as the line's numbers make it.
func sends(ask func(n []int) api.Ask) func(p *player, said words) (string, error) {
	return func(p *player, said words) (string, error) {
		return listed(p.Send(ask(said.numbers)), reportText), nil
	}
}

// word of a session: a client alone says it.
func word(kind byte) func(n []int) api.Ask {
	return func(n []int) api.Ask { return api.Ask{Kind: kind, Client: n[0]} }
}

func order(side int) func(n []int) api.Ask {
	return func(n []int) api.Ask {
		return api.Ask{Kind: api.Place, Client: n[0], Item: n[1], Side: side, ID: n[2], Price: n[3], Qty: n[4]}
	}
}

func cancel(n []int) api.Ask {
	return api.Ask{Kind: api.Cancel, Client: n[0], Item: n[1], ID: n[2]}
}

func (p *player) tick(said words) (string, error) {
	var reports []api.Report
	for range said.numbers[0] {
		reports = append(reports, p.Venue().Tick()...)
	}
	return listed(reports, reportText), nil
}

func (p *player) bytes(said words) (string, error) {
	return listed(p.Venue().Feed(said.numbers[0], said.text), reportText), nil
}

func (p *player) book(said words) (string, error) {
	return listed(p.Venue().Floor().Book(said.numbers[0]).Lots(), play.LotText), nil
}

func (p *player) band(said words) (string, error) {
	return play.BandText(p.Venue().Floor().Band(said.numbers[0])), nil
}

func (p *player) has(said words) (string, error) {
	return play.HasText(p.Venue().Floor().Purse().Of(said.numbers[0])), nil
}

func (p *player) cut(said words) (string, error) {
	if err := p.Venue().Tape().Cut(said.numbers[0]); err != nil {
		return "", err
	}
	return done, nil
}

// again: the venue that goes on has forgotten all sessions, and so has who plays on it.
func (p *player) again(words) (string, error) {
	v, err := recover.Open(play.Config(thePlay), p.Venue().Tape())
	if err != nil {
		return "", err
	}
	p.Player = play.NewOf(v)
	return done, nil
}

func (p *player) batches(words) (string, error) { return strconv.Itoa(p.Venue().Batches()), nil }

// listed: texts of all, one blank between.
func listed[T any](l []T, text func(T) string) string {
	if len(l) == 0 {
		return nothing
	}
	parts := make([]string, 0, len(l))
	for _, x := range l {
		parts = append(parts, text(x))
	}
	return strings.Join(parts, " ")
}

func reportText(r api.Report) string {
	s := r.Kind + ":" + digits.Join(":", r.Client, r.ID)
	if r.Price == 0 && r.Qty == 0 && r.Code == 0 {
		return s
	}
	return s + ":" + digits.Join(":", r.Price, r.Qty, r.Code)
}
