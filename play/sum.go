package play

import (
	"strconv"
	"strings"

	"gavelhouse/api"
	"gavelhouse/batch"
	"gavelhouse/purse"
	"gavelhouse/venue"
)

// Sum of a venue.
func Sum(v *venue.Venue) string {
	if v == nil || v.Floor() == nil {
		return ""
	}
	f := v.Floor()
	var b strings.Builder
	for item := range api.Items {
		b.WriteString(itemText(f, item) + "\n")
	}
	for client := range api.Clients {
		b.WriteString(hasText(f.Purse().Of(client)) + "\n")
	}
	return b.String()
}

// itemText: where its price is, and what rests of it.
func itemText(f *batch.Floor, item int) string {
	b := f.Band(item)
	parts := []string{joined(" ", b.Ref, b.Left)}
	for _, l := range f.Book(item).Lots() {
		parts = append(parts, joined(":", l.ID, l.Owner, l.Side, l.Price, l.Qty))
	}
	return strings.Join(parts, " ")
}

// hasText: what a client has.
func hasText(has purse.Has) string {
	numbers := []int{has.Cash, has.Held}
	for item := range api.Items {
		numbers = append(numbers, has.Stock[item], has.Kept[item])
	}
	return joined(" ", numbers...)
}

// joined numbers, with this between them.
func joined(between string, numbers ...int) string {
	parts := make([]string, 0, len(numbers))
	for _, n := range numbers {
		parts = append(parts, strconv.Itoa(n))
	}
	return strings.Join(parts, between)
}
