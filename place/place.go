// Package place: errors and their places.
package place

import (
	"errors"

	"gavelhouse/api"
)

// Aside: an error without its place, which says nothing where another one's is told.
func Aside(err error) error {
	var f *api.Fault
	if errors.As(err, &f) {
		return f.Err
	}
	return err
}
