package four_test

import (
	"encoding/binary"
	"testing"

	"gavelhouse/four"
)

func TestBothWays(t *testing.T) {
	for _, x := range []uint32{0, 1, 0x80, 0xff, 0x100, 0xff00, 0x10000, 0xff0000, 0x1000000, 0x01020304, 0x7fffffff, 0x80000000, 0xff000000, 0xffffffff} {
		high := binary.BigEndian.AppendUint32([]byte("ab"), x)
		low := binary.LittleEndian.AppendUint32([]byte("ab"), x)
		if got := four.AppendHigh([]byte("ab"), x); string(got) != string(high) {
			t.Errorf("AppendHigh(%x) = %x, want %x", x, got, high)
		}
		if got := four.AppendLow([]byte("ab"), x); string(got) != string(low) {
			t.Errorf("AppendLow(%x) = %x, want %x", x, got, low)
		}
		if got := four.High(string(high[2:]) + "more"); got != x {
			t.Errorf("High(%x) = %x, want %x", high[2:], got, x)
		}
		if got := four.Low(string(low[2:]) + "more"); got != x {
			t.Errorf("Low(%x) = %x, want %x", low[2:], got, x)
		}
	}
}
