package place_test

import (
	"errors"
	"testing"

	"gavelhouse/api"
	"gavelhouse/place"
)

// around wraps an error, as the library's own do.
type around struct{ err error }

func (a around) Error() string { return "around " + a.err.Error() }
func (a around) Unwrap() error { return a.err }

func TestAside(t *testing.T) {
	other := errors.New("other")
	for _, c := range []struct{ err, want error }{
		{nil, nil},
		{api.ErrBound, api.ErrBound},
		{other, other},
		{&api.Fault{At: 0, Err: api.ErrExist}, api.ErrExist},
		{&api.Fault{At: 7, Err: other}, other},
		{around{&api.Fault{At: 7, Err: api.ErrSum}}, api.ErrSum},
	} {
		if got := place.Aside(c.err); got != c.want {
			t.Errorf("Aside(%v) = %v, want %v", c.err, got, c.want)
		}
	}
}
