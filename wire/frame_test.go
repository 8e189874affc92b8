package wire_test

import (
	"hash/crc32"
	"math/rand"
	"strings"
	"testing"

	"gavelhouse/api"
	"gavelhouse/wire"
)

// sealed: a text with its sum behind it, made without the program.
func sealed(s string) string {
	v := crc32.ChecksumIEEE([]byte(s))
	return s + string([]byte{byte(v), byte(v >> 8), byte(v >> 16), byte(v >> 24)})
}

func encoded(t *testing.T, a api.Ask) string {
	t.Helper()
	s, err := wire.Encode(a)
	if err != nil {
		t.Fatalf("Encode(%+v): %v", a, err)
	}
	return s
}

func wantDecode(t *testing.T, s string, want error) {
	t.Helper()
	a, err := wire.Decode(s)
	if err != want || a != (api.Ask{}) {
		t.Errorf("Decode(%x) = %+v, %v, want %v", s, a, err, want)
	}
}

func replaced(s string, at int, with string) string {
	return s[:at] + with + s[at+len(with):]
}

func TestSum(t *testing.T) {
	for s, want := range map[string]uint32{
		"":                         0,
		"a":                        0xE8B7BE43,
		"123456789":                0xCBF43926,
		strings.Repeat("\x00", 32): 0x190A55AD,
		strings.Repeat("\xff", 32): 0xFF6CAB0B,
	} {
		if got := wire.Sum(s); got != want {
			t.Errorf("Sum(%x) = %x, want %x", s, got, want)
		}
	}
	r := rand.New(rand.NewSource(1))
	for n := range 300 {
		b := make([]byte, n)
		r.Read(b)
		if got, want := wire.Sum(string(b)), crc32.ChecksumIEEE(b); got != want {
			t.Errorf("Sum(%x) = %x, want %x", b, got, want)
		}
	}
}

func TestFrameBytes(t *testing.T) {
	for _, c := range []struct {
		a    api.Ask
		want string
	}{
		{api.Ask{Kind: api.Login, Client: 2, Seq: 1}, "l\x02" + "\x00\x00\x00\x01" + "\x00\x00" + "\x00\x00\x00\x00" + "\x00\x00\x00\x00" + "\x00\x00\x00\x00"},
		{api.Ask{Kind: api.Beat, Client: 3, Seq: 0x102}, "h\x03" + "\x00\x00\x01\x02" + "\x00\x00" + "\x00\x00\x00\x00" + "\x00\x00\x00\x00" + "\x00\x00\x00\x00"},
		{api.Ask{Kind: api.Place, Client: 1, Seq: 0x0A0B0C0D, Item: 1, Side: api.Buy, Price: 0x0123, Qty: 0x0304, ID: 0x11223344}, "o\x01" + "\x0a\x0b\x0c\x0d" + "\x01\x00" + "\x00\x00\x01\x23" + "\x00\x00\x03\x04" + "\x11\x22\x33\x44"},
		{api.Ask{Kind: api.Place, Client: 5, Seq: 1 << 30, Item: 2, Side: api.Sell, Price: 1000, Qty: 999, ID: 1 << 30}, "o\x05" + "\x40\x00\x00\x00" + "\x02\x01" + "\x00\x00\x03\xe8" + "\x00\x00\x03\xe7" + "\x40\x00\x00\x00"},
		{api.Ask{Kind: api.Cancel, Client: 4, Seq: 0x30405, Item: 2, ID: 0x607}, "c\x04" + "\x00\x03\x04\x05" + "\x02\x00" + "\x00\x00\x00\x00" + "\x00\x00\x00\x00" + "\x00\x00\x06\x07"},
		{api.Ask{Kind: api.Logout}, "q" + strings.Repeat("\x00", 19)},
	} {
		want := sealed(c.want + strings.Repeat("\x00", 6))
		if got := encoded(t, c.a); got != want || len(got) != api.FrameSize {
			t.Errorf("Encode(%+v) = %x, want %x", c.a, got, want)
		}
		if got, err := wire.Decode(want); got != c.a || err != nil {
			t.Errorf("Decode(%x) = %+v, %v, want %+v", want, got, err, c.a)
		}
	}
}

func TestDecodeUndoesEncode(t *testing.T) {
	for _, a := range goodAsks() {
		if got, err := wire.Decode(encoded(t, a)); got != a || err != nil {
			t.Errorf("%+v came back as %+v, %v", a, got, err)
		}
	}
}

func TestDecodeLength(t *testing.T) {
	s := encoded(t, topPlace)
	long := s + s + s
	for n := range len(long) + 1 {
		if n != api.FrameSize {
			wantDecode(t, long[:n], api.ErrText)
		}
	}
	wantDecode(t, sealed(s[:25]), api.ErrText)
	wantDecode(t, sealed(s[:26]+"\x00"), api.ErrText)
	wantDecode(t, strings.Repeat("x", 1<<20), api.ErrText)
}

func TestDecodeSpareBytes(t *testing.T) {
	for _, a := range goodAsks() {
		s := encoded(t, a)
		for at := 20; at < 26; at++ {
			for bit := range 8 {
				wantDecode(t, sealed(replaced(s[:26], at, string([]byte{1 << bit}))), api.ErrShape)
			}
		}
	}
}

// What a frame can hold and a request may not.
func TestDecodeChecks(t *testing.T) {
	place, cancel, login := encoded(t, topPlace)[:26], encoded(t, topCancel)[:26], encoded(t, topLogin)[:26]
	for _, c := range []struct {
		body string
		at   int
		with string
		want error
	}{
		{place, 0, "x", api.ErrKind},
		{place, 0, "\x00", api.ErrKind},
		{place, 0, "O", api.ErrKind},
		{place, 1, "\x06", api.ErrBound},
		{place, 1, "\xff", api.ErrBound},
		{place, 2, "\x40\x00\x00\x01", api.ErrBound},
		{place, 2, "\xff\xff\xff\xff", api.ErrBound},
		{place, 6, "\x03", api.ErrBound},
		{place, 7, "\x02", api.ErrBound},
		{place, 7, "\xff", api.ErrBound},
		{place, 8, "\x00\x00\x00\x00", api.ErrBound},
		{place, 8, "\x00\x00\x03\xe9", api.ErrBound},
		{place, 8, "\x01\x00\x00\x01", api.ErrBound},
		{place, 12, "\x00\x00\x00\x00", api.ErrBound},
		{place, 12, "\x00\x00\x03\xe9", api.ErrBound},
		{place, 12, "\x80\x00\x00\x01", api.ErrBound},
		{place, 16, "\x40\x00\x00\x01", api.ErrBound},
		{place, 16, "\x80\x00\x00\x00", api.ErrBound},
		{cancel, 6, "\x03", api.ErrBound},
		{cancel, 7, "\x01", api.ErrShape},
		{cancel, 11, "\x01", api.ErrShape},
		{cancel, 15, "\x01", api.ErrShape},
		{login, 6, "\x01", api.ErrShape},
		{login, 7, "\x01", api.ErrShape},
		{login, 8, "\x01", api.ErrShape},
		{login, 12, "\x01", api.ErrShape},
		{login, 19, "\x01", api.ErrShape},
		{login, 16, "\x40\x00\x00\x01", api.ErrBound},
	} {
		wantDecode(t, sealed(replaced(c.body, c.at, c.with)), c.want)
	}
}

// Length, sum, spare bytes, request: of several faults the first is told.
func TestDecodeOrder(t *testing.T) {
	body := replaced(replaced(encoded(t, topPlace)[:26], 0, "x\x09"), 25, "\x01")
	wantDecode(t, body+"\x00\x00\x00", api.ErrText)
	wantDecode(t, body+"\x00\x00\x00\x00", api.ErrSum)
	wantDecode(t, sealed(body), api.ErrShape)
	wantDecode(t, sealed(replaced(body, 25, "\x00")), api.ErrKind)
	wantDecode(t, sealed(replaced(replaced(body, 25, "\x00"), 0, "o")), api.ErrBound)
}

func TestDecodeSumBytes(t *testing.T) {
	s := encoded(t, topPlace)
	wantDecode(t, s[:26]+string([]byte{s[29], s[28], s[27], s[26]}), api.ErrSum)
	wantDecode(t, s[:26]+"\x00\x00\x00\x00", api.ErrSum)
	wantDecode(t, strings.Repeat("\x00", 30), api.ErrSum)
	wantDecode(t, strings.Repeat("\xff", 30), api.ErrSum)
}

// Of any bytes there are, what Decode takes is what Encode makes.
func TestDecodeOfAnyBytes(t *testing.T) {
	r := rand.New(rand.NewSource(2))
	taken := 0
	for range 20000 {
		b := []byte(encoded(t, goodAsks()[r.Intn(15)]))[:26]
		for range r.Intn(3) {
			b[r.Intn(20)] = byte(r.Intn(256))
		}
		s := sealed(string(b))
		a, err := wire.Decode(s)
		if err != nil {
			wantDecode(t, s, err)
			continue
		}
		taken++
		if encoded(t, a) != s {
			t.Errorf("%x was taken as %+v", s, a)
		}
	}
	if taken == 0 || taken == 20000 {
		t.Error("no frames of both sorts:", taken)
	}
}
