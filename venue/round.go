package venue

import (
	"slices"

	"gavelhouse/api"
	"gavelhouse/batch"
)

// round: one batch, and what is told of it.
type round struct {
	floor   *batch.Floor
	placed  []api.Ask // orders of this batch that were neither refused nor cancelled: of an item, each ID once
	reports []api.Report
}

// tell the owner of a lot what came of it.
func (r *round) tell(kind string, l api.Lot) {
	r.reports = append(r.reports, api.Report{Client: l.Owner, Kind: kind, ID: l.ID, Price: l.Price, Qty: l.Qty})
}

// refuse a request.
func (r *round) refuse(a api.Ask, err error) {
	r.reports = append(r.reports, refusal(a.Client, a.ID, err))
}

// drop all lots of a client.
func (r *round) drop(client int) {
	for _, l := range r.floor.Drop(client) {
		r.tell(gone, l)
	}
}

// ask the floor what a client asked for: only orders and cancels wait.
func (r *round) ask(a api.Ask) {
	if a.Kind == api.Place {
		r.place(a)
	} else {
		r.cancel(a)
	}
}

func (r *round) place(a api.Ask) {
	if err := r.floor.Place(a); err != nil {
		r.refuse(a, err)
		return
	}
	r.placed = append(r.placed, a)
}

func (r *round) cancel(a api.Ask) {
	l, err := r.floor.Cancel(a)
	if err != nil {
		r.refuse(a, err)
		return
	}
	r.tell(gone, l)
	// The ID is free: an order that takes it later is another one, and must not be told of in this one's place.
	r.placed = slices.DeleteFunc(r.placed, func(x api.Ask) bool { return x.Item == a.Item && x.ID == a.ID })
}

// trade a batch of an item, and tell who was filled, and which of the new orders rest.
func (r *round) trade(item int, seed uint32) {
	lots := r.floor.Book(item)
	owners := ownersOf(lots.Lots()) // taken down ahead, as a lot that is filled whole goes
	// A floor that is changed through the venue alone has no error here; one that has an error fills nothing.
	result, _ := r.floor.Run(item, seed)
	for _, x := range result.Fills {
		r.tell(filled, api.Lot{ID: x.ID, Owner: owners[x.ID], Price: result.Price, Qty: x.Qty})
	}
	for _, a := range r.placed {
		if l, is := lots.Get(a.ID); is && a.Item == item {
			r.tell(rests, l)
		}
	}
}

// ownersOf lots, by ID.
func ownersOf(lots []api.Lot) map[int]int {
	owners := map[int]int{}
	for _, l := range lots {
		owners[l.ID] = l.Owner
	}
	return owners
}
