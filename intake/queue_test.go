package intake_test

import (
	"math"
	"testing"

	"gavelhouse/api"
	"gavelhouse/intake"
)

// cancel: a request of a client with an ID, by which it is told from others.
func cancel(client, id int) api.Ask {
	return api.Ask{Kind: api.Cancel, Client: client, Seq: id + 2, Item: 1, ID: id}
}

// noClients: numbers that no client has.
var noClients = []int{math.MinInt, -7, -6, -1, 6, 7, 12, 256, 1 << 32, math.MaxInt}

// put requests that are taken: of a client, with IDs in order.
func put(t *testing.T, i *intake.Intake, client int, ids ...int) {
	t.Helper()
	for _, id := range ids {
		if err := i.Put(cancel(client, id)); err != nil {
			t.Fatalf("client %d, ID %d: %v", client, id, err)
		}
	}
}

func wantPut(t *testing.T, i *intake.Intake, a api.Ask, want error) {
	t.Helper()
	if err := i.Put(a); err != want {
		t.Errorf("%+v: %v, want %v", a, err, want)
	}
}

// wantWait: how many wait of each client, and whose turn it is.
func wantWait(t *testing.T, i *intake.Intake, waits [6]int, turn int) {
	t.Helper()
	for client, want := range waits {
		if n := i.Wait(client); n != want {
			t.Errorf("%d of client %d wait, want %d", n, client, want)
		}
	}
	if i.Turn() != turn {
		t.Errorf("turn %d, want %d", i.Turn(), turn)
	}
}

func TestBounds(t *testing.T) {
	if api.Clients != 6 || api.Queue != 6 || api.Quota != 2 {
		t.Error(api.Clients, api.Queue, api.Quota)
	}
}

func TestNew(t *testing.T) {
	i := intake.New()
	wantWait(t, i, [6]int{}, 0)
	if l := i.Drain(); len(l) > 0 {
		t.Error(l)
	}
}

// What one of them takes, another one does not see.
func TestNewIsAnotherOne(t *testing.T) {
	i, other := intake.New(), intake.New()
	put(t, i, 3, 1, 2, 3)
	i.Drain()
	wantWait(t, i, [6]int{3: 1}, 1)
	wantWait(t, other, [6]int{}, 0)
	wantWait(t, intake.New(), [6]int{}, 0)
}

func TestPutOfEachClient(t *testing.T) {
	i := intake.New()
	for client := range 6 {
		for n := range client + 1 {
			put(t, i, client, n)
		}
	}
	wantWait(t, i, [6]int{1, 2, 3, 4, 5, 6}, 0)
}

func TestPutOfKinds(t *testing.T) {
	i := intake.New()
	taken := 0
	for kind := range 256 {
		want := api.ErrKind
		if kind == 'o' || kind == 'c' {
			want, taken = nil, taken+1
		}
		wantPut(t, i, api.Ask{Kind: byte(kind), Client: 2, Seq: 1, ID: 1}, want)
		wantWait(t, i, [6]int{2: taken}, 0)
	}
}

// An intake asks for kind and client alone: what else a request must be is the business of who puts it.
func TestPutOfAnyFields(t *testing.T) {
	i := intake.New()
	asks := []api.Ask{
		{Kind: api.Place, Client: 4},
		{Kind: api.Place, Client: 4, Seq: 5, Item: 2, Side: 1, Price: 100, Qty: 7, ID: 8},
		{Kind: api.Place, Client: 4, Seq: -1, Item: 3, Side: 2, Price: 1001, Qty: -9, ID: math.MinInt},
		{Kind: api.Cancel, Client: 4, Seq: math.MaxInt, Item: -1, Side: 1, Price: 1, Qty: 1, ID: math.MaxInt},
	}
	for _, a := range asks {
		wantPut(t, i, a, nil)
	}
	wantDrain(t, i, asks[:2])
	wantDrain(t, i, asks[2:])
}

// The same request may wait twice.
func TestPutTwice(t *testing.T) {
	i := intake.New()
	put(t, i, 1, 7, 7, 7)
	wantIDs(t, i, 107, 107)
	wantIDs(t, i, 107)
}

func TestPutOfNoClient(t *testing.T) {
	i := intake.New()
	for _, client := range noClients {
		wantPut(t, i, cancel(client, 1), api.ErrBound)
		wantPut(t, i, api.Ask{Kind: api.Place, Client: client}, api.ErrBound)
	}
	wantWait(t, i, [6]int{}, 0)
	wantIDs(t, i)
}

func TestPutWhereQueueIsFull(t *testing.T) {
	for client := range 6 {
		i := intake.New()
		put(t, i, client, 1, 2, 3, 4, 5, 6)
		wantPut(t, i, cancel(client, 7), api.ErrFull)
		wantPut(t, i, api.Ask{Kind: api.Place, Client: client}, api.ErrFull)
		var waits [6]int
		waits[client] = 6
		wantWait(t, i, waits, 0)
		wantIDs(t, i, 100*client+1, 100*client+2)
		put(t, i, client, 8, 9)
		wantPut(t, i, cancel(client, 10), api.ErrFull)
		wantIDs(t, i, 100*client+3, 100*client+4)
		wantIDs(t, i, 100*client+5, 100*client+6)
		wantIDs(t, i, 100*client+8, 100*client+9)
		wantIDs(t, i)
	}
}

// A client's queue that is full keeps nobody else out.
func TestPutBesideFullQueues(t *testing.T) {
	i := intake.New()
	for client := range 6 {
		put(t, i, client, 1, 2, 3, 4, 5, 6)
		wantPut(t, i, cancel(client, 7), api.ErrFull)
	}
	wantWait(t, i, [6]int{6, 6, 6, 6, 6, 6}, 0)
}

func TestOrderOfErrors(t *testing.T) {
	i := intake.New()
	put(t, i, 5, 1, 2, 3, 4, 5, 6)
	wantPut(t, i, api.Ask{Kind: api.Beat, Client: 6}, api.ErrKind)
	wantPut(t, i, api.Ask{Kind: api.Logout, Client: 5}, api.ErrKind)
	wantPut(t, i, api.Ask{Client: -1}, api.ErrKind)
	wantPut(t, i, cancel(6, 1), api.ErrBound)
	wantPut(t, i, cancel(5, 7), api.ErrFull)
	wantWait(t, i, [6]int{5: 6}, 0)
}

func TestWaitOfNoClient(t *testing.T) {
	i := intake.New()
	for client := range 6 {
		put(t, i, client, 1, 2)
	}
	for _, client := range noClients {
		if n := i.Wait(client); n != 0 {
			t.Errorf("%d of client %d wait", n, client)
		}
	}
}

func TestClear(t *testing.T) {
	for many := range 7 {
		i := intake.New()
		put(t, i, 2, 1)
		put(t, i, 4, 2, 3)
		for id := range many {
			put(t, i, 3, id)
		}
		if n := i.Clear(3); n != many {
			t.Errorf("%d went, want %d", n, many)
		}
		if n := i.Clear(3); n != 0 {
			t.Errorf("%d went once more", n)
		}
		wantWait(t, i, [6]int{2: 1, 4: 2}, 0)
		put(t, i, 3, 11, 12, 13, 14, 15, 16)
		wantPut(t, i, cancel(3, 17), api.ErrFull)
		wantIDs(t, i, 201, 311, 312, 402, 403)
	}
}

// What is left behind a drain goes; the turn stays.
func TestClearBehindDrain(t *testing.T) {
	i := intake.New()
	put(t, i, 3, 1, 2, 3, 4, 5)
	put(t, i, 0, 1, 2, 3)
	wantIDs(t, i, 1, 2, 301, 302)
	if n := i.Clear(3); n != 3 {
		t.Error(n)
	}
	wantWait(t, i, [6]int{1}, 1)
	wantIDs(t, i, 3)
}

func TestClearOfNoClient(t *testing.T) {
	i := intake.New()
	for client := range 6 {
		put(t, i, client, 1, 2, 3)
	}
	for _, client := range noClients {
		if n := i.Clear(client); n != 0 {
			t.Errorf("%d of client %d went", n, client)
		}
	}
	wantWait(t, i, [6]int{3, 3, 3, 3, 3, 3}, 0)
}
