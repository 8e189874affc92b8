// Package wire: frames: see ../shared/doc/01-wire.md.
package wire

import (
	"strings"

	"gavelhouse/api"
	"gavelhouse/bound"
	"gavelhouse/four"
	"gavelhouse/plain"
)

// The parts of a frame behind its fields.
const (
	spare   = "\x00\x00\x00\x00\x00\x00"
	sumSize = 4
	sumAt   = api.FrameSize - sumSize
	spareAt = sumAt - len(spare)
)

// polynomial of the sum, turned around: bytes come with their lowest bit first.
const polynomial = 0xEDB88320

// Check a request.
func Check(a api.Ask) error {
	switch {
	case !isKind(a.Kind):
		return api.ErrKind
	case !isBounded(a):
		return api.ErrBound
	case !isShaped(a):
		return api.ErrShape
	}
	return nil
}

func isKind(k byte) bool {
	switch k {
	case api.Login, api.Beat, api.Place, api.Cancel, api.Logout:
		return true
	}
	return false
}

func isBounded(a api.Ask) bool {
	if !bound.IsClient(a.Client) || !bound.Within(a.Seq, 0, api.MaxID) || !bound.Within(a.ID, 0, api.MaxID) {
		return false
	}
	switch a.Kind {
	case api.Place:
		return isItem(a.Item) && bound.Within(a.Side, api.Buy, api.Sell) && bound.Within(a.Price, 1, api.MaxPrice) && bound.Within(a.Qty, 1, api.MaxQty)
	case api.Cancel:
		return isItem(a.Item)
	}
	return true
}

func isItem(n int) bool { return bound.Within(n, 0, api.Items-1) }

func isShaped(a api.Ask) bool {
	switch a.Kind {
	case api.Place:
		return true
	case api.Cancel:
		return a.Side == 0 && a.Price == 0 && a.Qty == 0
	}
	return a.Item == 0 && a.Side == 0 && a.Price == 0 && a.Qty == 0 && a.ID == 0
}

// Sum of a text.
func Sum(s string) uint32 {
	rest := ^uint32(0)
	for i := range len(s) {
		rest ^= uint32(s[i])
		for range 8 {
			out := rest & 1
			rest >>= 1
			if out == 1 {
				rest ^= polynomial
			}
		}
	}
	return ^rest
}

// Encode a request.
func Encode(a api.Ask) (string, error) {
	if err := Check(a); err != nil {
		return "", err
	}
	b := make([]byte, 0, api.FrameSize)
	b = append(b, a.Kind, byte(a.Client))
	b = four.AppendHigh(b, uint32(a.Seq))
	b = append(b, byte(a.Item), byte(a.Side))
	b = four.AppendHigh(b, uint32(a.Price))
	b = four.AppendHigh(b, uint32(a.Qty))
	b = four.AppendHigh(b, uint32(a.ID))
	b = append(b, spare...)
	b = four.AppendLow(b, Sum(string(b)))
	return string(b), nil
}

// Decode a frame.
func Decode(s string) (api.Ask, error) {
	if len(s) != api.FrameSize {
		return api.Ask{}, api.ErrText
	}
	if four.Low(s[sumAt:]) != Sum(s[:sumAt]) {
		return api.Ask{}, api.ErrSum
	}
	if s[spareAt:sumAt] != spare {
		return api.Ask{}, api.ErrShape
	}
	a := fields(s)
	if err := Check(a); err != nil {
		return api.Ask{}, err
	}
	return a, nil
}

func fields(s string) api.Ask {
	return api.Ask{
		Kind:   s[0],
		Client: int(s[1]),
		Seq:    int(four.High(s[2:6])),
		Item:   int(s[6]),
		Side:   int(s[7]),
		Price:  int(four.High(s[8:12])),
		Qty:    int(four.High(s[12:16])),
		ID:     int(four.High(s[16:20])),
	}
}

// Got of a stream.
type Got struct {
	Ask  api.Ask
	Code int
}

// Reader of a stream.
type Reader struct {
	wait string // always shorter than a frame
}

// Feed bytes.
func (r *Reader) Feed(s string) []Got {
	s = r.wait + s
	var got []Got
	for len(s) >= api.FrameSize {
		got = append(got, take(s[:api.FrameSize]))
		s = s[api.FrameSize:]
	}
	// A piece of s would hold all of its memory for as long as it waits.
	r.wait = strings.Clone(s)
	return got
}

func take(frame string) Got {
	a, err := Decode(frame)
	code, _ := plain.Code(err)
	return Got{Ask: a, Code: code}
}

// Left bytes.
func (r *Reader) Left() int { return len(r.wait) }
