package venue

import (
	"strconv"

	"gavelhouse/api"
	"gavelhouse/wire"
)

const digits = "0123456789abcdef"

// record of a batch: what is needed to run it again.
func record(batch int, drops []int, asks []api.Ask) string {
	b := strconv.AppendInt(nil, int64(batch), 10)
	b = append(b, ':')
	for i, n := range drops {
		if i > 0 {
			b = append(b, ',')
		}
		b = strconv.AppendInt(b, int64(n), 10)
	}
	for _, a := range asks {
		// What waits came as a frame, so that it can be made one again.
		frame, _ := wire.Encode(a)
		b = append(b, ' ')
		b = appendDigits(b, frame)
	}
	return string(b)
}

// appendDigits of bytes, two each.
func appendDigits(b []byte, s string) []byte {
	for i := range len(s) {
		b = append(b, digits[s[i]>>4], digits[s[i]&15])
	}
	return b
}
