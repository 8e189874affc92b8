package play

import (
	"testing"

	"gavelhouse/api"
)

// P1: numbers and IDs that no frame can tell are not fed; it would take too long to count up to them.
func TestNumbersBeyondFrames(t *testing.T) {
	p, err := New(0)
	if err != nil {
		t.Fatal(err)
	}
	const login, beat, order = 0, 6, 12
	p.Run([]int{login})
	p.clients[0].next = api.MaxID
	if l := p.Run([]int{beat}); len(l) != 1 || l[0] != (api.Report{Kind: "refused", Code: 12}) {
		t.Errorf("the last number: told %v", l)
	}
	if l := p.Run([]int{beat, order, beat}); len(l) != 0 {
		t.Errorf("numbers behind the last one: told %v", l)
	}
	p.clients[0] = client{next: 2, placed: api.MaxID - 1}
	if l := p.Run([]int{order, order}); len(l) != 1 || l[0] != (api.Report{Kind: "accepted", ID: api.MaxID}) {
		t.Errorf("the last ID, and one more: told %v", l)
	}
}
