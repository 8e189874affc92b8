package recover

import (
	"strings"

	"gavelhouse/api"
	"gavelhouse/bound"
	"gavelhouse/digits"
	"gavelhouse/wire"
)

const (
	hex       = "0123456789abcdef"
	maxDigits = 9 // of a batch; a client has fewer
)

// Read a record.
func Read(s string) (batch int, drops []int, asks []api.Ask, err error) {
	r, is := partsOf(s)
	if !is {
		return 0, nil, nil, api.ErrText
	}
	// Frames are looked at only now, as a text that is no record is told ahead of a frame that is not well.
	asks, err = decode(r.frames)
	if err != nil {
		return 0, nil, nil, err
	}
	return r.batch, r.drops, asks, nil
}

// parts of a record; its frames are bytes so far.
type parts struct {
	batch  int
	drops  []int
	frames []string
}

// partsOf a text; false: it is no record.
func partsOf(s string) (parts, bool) {
	head, tail, isHead := strings.Cut(s, ":")
	batch, isNumber := digits.Read(head, maxDigits)
	clients, frames, hasFrames := strings.Cut(tail, " ")
	drops, isRising := rising(clients)
	if !isHead || !isNumber || !isRising {
		return parts{}, false
	}
	r := parts{batch: batch, drops: drops}
	if !hasFrames {
		return r, true
	}
	for part := range strings.SplitSeq(frames, " ") {
		frame, is := bytesOf(part)
		if !is {
			return parts{}, false
		}
		r.frames = append(r.frames, frame)
	}
	return r, true
}

// rising clients, a comma between; false: they are not so.
func rising(s string) ([]int, bool) {
	if s == "" {
		return nil, true
	}
	var clients []int
	last := -1
	for part := range strings.SplitSeq(s, ",") {
		n, is := digits.Read(part, maxDigits)
		if !is || !bound.IsClient(n) || n <= last {
			return nil, false
		}
		clients = append(clients, n)
		last = n
	}
	return clients, true
}

// bytesOf digits, two each; false: they are none.
func bytesOf(s string) (string, bool) {
	if len(s)%2 != 0 {
		return "", false
	}
	b := make([]byte, 0, len(s)/2)
	for i := 0; i < len(s); i += 2 {
		high, low := strings.IndexByte(hex, s[i]), strings.IndexByte(hex, s[i+1])
		if high < 0 || low < 0 {
			return "", false
		}
		b = append(b, byte(high<<4|low))
	}
	return string(b), true
}

// decode frames; the first error of one.
func decode(frames []string) ([]api.Ask, error) {
	var asks []api.Ask
	for _, s := range frames {
		a, err := wire.Decode(s)
		if err != nil {
			return nil, err
		}
		asks = append(asks, a)
	}
	return asks, nil
}
