package play

import (
	"strings"

	"gavelhouse/api"
	"gavelhouse/band"
	"gavelhouse/batch"
	"gavelhouse/digits"
	"gavelhouse/purse"
	"gavelhouse/venue"
)

// Sum of a venue.
func Sum(v *venue.Venue) string {
	if v == nil || v.Floor() == nil {
		return ""
	}
	f := v.Floor()
	var b strings.Builder
	for item := range api.Items {
		b.WriteString(itemText(f, item) + "\n")
	}
	for client := range api.Clients {
		b.WriteString(HasText(f.Purse().Of(client)) + "\n")
	}
	return b.String()
}

// itemText: where its price is, and what rests of it.
func itemText(f *batch.Floor, item int) string {
	parts := []string{BandText(f.Band(item))}
	for _, l := range f.Book(item).Lots() {
		parts = append(parts, LotText(l))
	}
	return strings.Join(parts, " ")
}

// BandText: where an item's price is, and how long it halts.
func BandText(b band.Band) string { return digits.Join(" ", b.Ref, b.Left) }

// LotText: what rests of an order.
func LotText(l api.Lot) string { return digits.Join(":", l.ID, l.Owner, l.Side, l.Price, l.Qty) }

// HasText: what a client has.
func HasText(has purse.Has) string {
	numbers := []int{has.Cash, has.Held}
	for item := range api.Items {
		numbers = append(numbers, has.Stock[item], has.Kept[item])
	}
	return digits.Join(" ", numbers...)
}
