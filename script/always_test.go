package script_test

import (
	"fmt"
	"math/rand"
	"regexp"
	"strconv"
	"strings"
	"sync"
	"testing"

	"gavelhouse/api"
	"gavelhouse/band"
	"gavelhouse/recover"
	"gavelhouse/script"
	"gavelhouse/venue"
	"gavelhouse/wire"
)

var config = venue.Config{Seed: 0, Rule: band.Rule{Width: 10, Halt: 2}, Ref: 100, Cash: 20000, Stock: 100}

// Numbers as they are spelled, up to their bounds.
const (
	aClient = `([0-5])`
	anItem  = `([0-2])`
	aNumber = `(0|[1-9][0-9]{0,6})`
	aPrice  = `([1-9][0-9]{0,2}|1000)`
)

// Forms of lines.
var (
	wordForm   = regexp.MustCompile(`^(login|beat|logout) ` + aClient + `$`)
	orderForm  = regexp.MustCompile(`^(buy|sell) ` + aClient + ` ` + anItem + ` ` + aNumber + ` ` + aPrice + ` ` + aPrice + `$`)
	cancelForm = regexp.MustCompile(`^(cancel) ` + aClient + ` ` + anItem + ` ` + aNumber + `$`)
	bytesForm  = regexp.MustCompile(`^(bytes) ` + aClient + ` `)
	tickForm   = regexp.MustCompile(`^(tick) ([1-9]|[1-4][0-9]|50)$`)
	itemForm   = regexp.MustCompile(`^(book|band) ` + anItem + `$`)
	hasForm    = regexp.MustCompile(`^(has) ` + aClient + `$`)
	cutForm    = regexp.MustCompile(`^(cut) ` + aNumber + `$`)
)

// model of a script: it tells lines by their forms, and numbers requests on its own.
type model struct {
	t     *testing.T
	venue *venue.Venue
	sent  map[int]int
}

func newModel(t *testing.T) *model {
	t.Helper()
	v, err := venue.New(config)
	if err != nil {
		t.Fatal(err)
	}
	return &model{t, v, map[int]int{}}
}

// parts of a line that a form has: its command, and its numbers.
func parts(form *regexp.Regexp, line string) (string, []int) {
	l := form.FindStringSubmatch(line)
	if l == nil {
		return "", nil
	}
	var numbers []int
	for _, s := range l[2:] {
		n, _ := strconv.Atoi(s)
		numbers = append(numbers, n)
	}
	return l[1], numbers
}

func (m *model) answer(line string) string {
	f := m.venue.Floor()
	if word, n := parts(wordForm, line); n != nil {
		return m.send(api.Ask{Kind: map[string]byte{"login": 'l', "beat": 'h', "logout": 'q'}[word], Client: n[0]})
	}
	if word, n := parts(orderForm, line); n != nil {
		return m.send(api.Ask{Kind: 'o', Client: n[0], Item: n[1], Side: map[string]int{"buy": 0, "sell": 1}[word], ID: n[2], Price: n[3], Qty: n[4]})
	}
	if _, n := parts(cancelForm, line); n != nil {
		return m.send(api.Ask{Kind: 'c', Client: n[0], Item: n[1], ID: n[2]})
	}
	if _, n := parts(bytesForm, line); n != nil {
		return told(m.venue.Feed(n[0], line[len("bytes 0 "):]))
	}
	if _, n := parts(tickForm, line); n != nil {
		var l []api.Report
		for range n[0] {
			l = append(l, m.venue.Tick()...)
		}
		return told(l)
	}
	if word, n := parts(itemForm, line); word == "book" {
		s := ""
		for _, l := range f.Book(n[0]).Lots() {
			s += fmt.Sprintf(" %d:%d:%d:%d:%d", l.ID, l.Owner, l.Side, l.Price, l.Qty)
		}
		return orNothing(s)
	} else if word == "band" {
		return fmt.Sprint(f.Band(n[0]).Ref, f.Band(n[0]).Left)
	}
	if _, n := parts(hasForm, line); n != nil {
		h := f.Purse().Of(n[0])
		return fmt.Sprint(h.Cash, h.Held, h.Stock[0], h.Kept[0], h.Stock[1], h.Kept[1], h.Stock[2], h.Kept[2])
	}
	if _, n := parts(cutForm, line); n != nil {
		if !m.venue.Tape().Power() {
			return "gavelhouse: off"
		}
		m.venue.Tape().Cut(n[0])
		return "ok"
	}
	switch line {
	case "batches":
		return fmt.Sprint(m.venue.Batches())
	case "again":
		return m.again()
	}
	return noLine
}

func (m *model) send(a api.Ask) string {
	if a.Kind == 'l' {
		m.sent[a.Client] = 0
	}
	m.sent[a.Client]++
	a.Seq = m.sent[a.Client]
	if a.Kind == 'q' {
		m.sent[a.Client] = 0
	}
	s, err := wire.Encode(a)
	if err != nil {
		m.t.Fatalf("Encode(%+v): %v", a, err)
	}
	return told(m.venue.Feed(a.Client, s))
}

func (m *model) again() string {
	v, err := recover.Open(config, m.venue.Tape())
	if err != nil {
		m.t.Fatal(err)
	}
	m.venue, m.sent = v, map[int]int{}
	return "ok"
}

// told: reports by the words of the document.
func told(l []api.Report) string {
	s := ""
	for _, r := range l {
		s += fmt.Sprintf(" %s:%d:%d", r.Kind, r.Client, r.ID)
		if [3]int{r.Price, r.Qty, r.Code} != [3]int{} {
			s += fmt.Sprintf(":%d:%d:%d", r.Price, r.Qty, r.Code)
		}
	}
	return orNothing(s)
}

func orNothing(s string) string {
	if s == "" {
		return "nothing"
	}
	return s[1:]
}

// draw a line: few IDs and close prices, so that much meets.
func draw(r *rand.Rand) string {
	client, item, id := r.Intn(6), r.Intn(3), 1+r.Intn(12)
	switch k := r.Intn(60); {
	case k < 3:
		return fmt.Sprint("login ", client)
	case k < 11:
		return fmt.Sprint("beat ", client)
	case k == 11:
		return fmt.Sprint("logout ", client)
	case k < 33:
		return fmt.Sprintf("%s %d %d %d %d %d", []string{"buy", "sell"}[r.Intn(2)], client, item, id, 95+r.Intn(11), 1+r.Intn(9))
	case k < 37:
		return fmt.Sprintf("cancel %d %d %d", client, item, id)
	case k < 47:
		return fmt.Sprint("tick ", 1+r.Intn(3))
	case k == 47:
		return fmt.Sprint("tick ", r.Intn(60))
	case k == 48:
		return fmt.Sprint("cut ", r.Intn(600))
	case k == 49:
		return "again"
	case k == 50:
		return fmt.Sprintf("bytes %d %s", client, strings.Repeat("x ", 15*r.Intn(3)))
	case k == 51:
		return fmt.Sprintf("bytes %d %s", client, strings.Repeat("\x00", r.Intn(40)))
	case k == 52:
		return wrong(r)
	}
	return []string{fmt.Sprint("book ", item), fmt.Sprint("band ", item), fmt.Sprint("has ", client), "batches"}[r.Intn(4)]
}

// wrong line, most often: one that is well, with a byte taken out, put in, or changed.
func wrong(r *rand.Rand) string {
	lines := []string{"login 0", "beat 5", "logout 2", "buy 1 2 30 400 50", "sell 5 0 1234567 1000 1", "cancel 4 1 10", "tick 10", "bytes 3 x", "book 1", "band 2", "has 4", "cut 123", "again", "batches"}
	s := lines[r.Intn(len(lines))]
	at := r.Intn(len(s))
	put := string("0123456789 -+abx\n\xff"[r.Intn(18)])
	return []string{s[:at] + s[at+1:], s[:at] + put + s[at:], s[:at] + put + s[at+1:], s + put}[r.Intn(4)]
}

func drawLines(r *rand.Rand, n int) []string {
	var lines []string
	for len(lines) < n {
		if len(lines) < 6 && r.Intn(4) > 0 {
			lines = append(lines, fmt.Sprint("login ", len(lines)))
			continue
		}
		lines = append(lines, draw(r))
	}
	return lines
}

// P160 to P162: whatever the lines are, their answers are those of the model.
func TestAlways(t *testing.T) {
	seen := map[string]int{}
	for k := range 2000 {
		r := rand.New(rand.NewSource(int64(k)))
		lines := drawLines(r, 80+r.Intn(21))
		m := newModel(t)
		for i, got := range run(t, lines...) {
			if want := m.answer(lines[i]); got != want {
				t.Fatalf("script %d, line %d, %q: %q, want %q", k, i, lines[i], got, want)
			}
			count(seen, got)
		}
	}
	for name, least := range map[string]int{
		"accepted": 1000, "busy": 10, "filled": 1000, "rests": 1000, "gone": 1000, "refused": 1000,
		"ok": 1000, "nothing": 1000, "gavelhouse: off": 10, noLine: 1000,
	} {
		if seen[name] < least {
			t.Errorf("%s was seen %d times alone", name, seen[name])
		}
	}
}

// count what an answer tells.
func count(seen map[string]int, answer string) {
	if strings.HasPrefix(answer, "gavelhouse") {
		seen[answer]++
		return
	}
	for _, s := range strings.Split(answer, " ") {
		kind, _, _ := strings.Cut(s, ":")
		seen[kind]++
	}
}

// Lines that are nearly well are those of the forms, and no others.
func TestNearlyWell(t *testing.T) {
	r := rand.New(rand.NewSource(9))
	isLine := map[bool]int{}
	for range 400 {
		var lines []string
		for range 100 {
			lines = append(lines, wrong(r))
		}
		m := newModel(t)
		for i, got := range run(t, lines...) {
			if want := m.answer(lines[i]); got != want {
				t.Fatalf("line %d, %q: %q, want %q", i, lines[i], got, want)
			}
			isLine[got != noLine]++
		}
	}
	if isLine[true] < 2000 || isLine[false] < 2000 {
		t.Errorf("lines or not: %v", isLine)
	}
}

// P162, P2: the same lines make the same answers, however often, and beside however many others.
func TestSameAgain(t *testing.T) {
	scripts := make([][]string, 4)
	first := make([]string, 4)
	for i := range scripts {
		scripts[i] = drawLines(rand.New(rand.NewSource(int64(70+i))), 100)
		first[i] = fmt.Sprintf("%q", run(t, scripts[i]...))
	}
	beside := make([]string, 32)
	var group sync.WaitGroup
	for i := range beside {
		group.Go(func() {
			answers, err := script.Run(scripts[i%4])
			beside[i] = fmt.Sprintf("%q", answers)
			if err != nil {
				beside[i] = err.Error()
			}
		})
	}
	group.Wait()
	for i, s := range beside {
		if s != first[i%4] {
			t.Errorf("beside others, script %d is another one", i%4)
		}
	}
}

// P4: lines are only read, and what is written into answers, no other call sees.
func TestNewMemory(t *testing.T) {
	lines := drawLines(rand.New(rand.NewSource(5)), 100)
	ahead := fmt.Sprintf("%q", lines)
	answers := run(t, lines...)
	first := fmt.Sprintf("%q", answers)
	for i := range answers {
		answers[i] = "spoilt"
	}
	if got := fmt.Sprintf("%q", lines); got != ahead {
		t.Errorf("lines are %s, were %s", got, ahead)
	}
	if got := fmt.Sprintf("%q", run(t, lines...)); got != first {
		t.Errorf("answers are %s, were %s", got, first)
	}
}
