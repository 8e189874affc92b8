package recover_test

import (
	"fmt"
	"math/rand"
	"strings"
	"testing"

	"gavelhouse/api"
	"gavelhouse/recover"
)

func wantRead(t *testing.T, s string, batch int, drops []int, asks []api.Ask) {
	t.Helper()
	n, d, a, err := recover.Read(s)
	if n != batch || fmt.Sprint(d) != fmt.Sprint(drops) || fmt.Sprint(a) != fmt.Sprint(asks) || err != nil {
		t.Errorf("Read(%q) = %d, %v, %v, %v, want %d, %v, %v", s, n, d, a, err, batch, drops, asks)
	}
}

// wantNoRecord: the error is bare, and there is nothing else.
func wantNoRecord(t *testing.T, s string, want error) {
	t.Helper()
	n, drops, asks, err := recover.Read(s)
	if n != 0 || len(drops) > 0 || len(asks) > 0 || err != want {
		t.Errorf("Read(%q) = %d, %v, %v, %v, want %v", s, n, drops, asks, err, want)
	}
}

func TestRead(t *testing.T) {
	asks := []api.Ask{
		of(0, 2, order(0, api.Buy, 1, 1, 0)),
		of(5, 1<<30, order(2, api.Sell, 1000, 1000, 1<<30)),
		of(3, 0, cancel(1, 77)),
	}
	for _, batch := range []int{0, 1, 9, 10, 100, 101, 123456789, 999999999} {
		for _, drops := range [][]int{nil, {0}, {5}, {0, 5}, {1, 2, 4}, {0, 1, 2, 3, 4, 5}} {
			for many := range 4 {
				wantRead(t, written(t, batch, drops, asks[:many]), batch, drops, asks[:many])
			}
		}
	}
}

// A record whose bytes are spelt out: no word of the program made it.
func TestReadBytes(t *testing.T) {
	fields := "6f03" + "00000002" + "0201" + "000003e8" + "000000ab" + "2abcdef0" + "000000000000"
	ask := of(3, 2, order(2, api.Sell, 1000, 171, 0x2abcdef0))
	wantRead(t, fmt.Sprintf("40:1,4 %s%x", fields, frame(t, ask)[26:]), 40, []int{1, 4}, []api.Ask{ask})
}

// All kinds have frames: that only orders and cancels wait is not a record's matter, nor how many there are.
func TestReadKinds(t *testing.T) {
	var asks []api.Ask
	for seq := range 20 {
		for client := range 6 {
			asks = append(asks, of(client, seq, login()), of(client, seq, beat()), of(client, seq, logout()), of(client, seq, cancel(0, seq)))
		}
	}
	wantRead(t, written(t, 8, nil, asks), 8, nil, asks)
}

func TestReadNoRecord(t *testing.T) {
	good := fmt.Sprintf("%x", frame(t, of(0, 2, order(0, api.Buy, 10, 1, 171))))
	for _, head := range []string{
		"", ":", "0", "1", "0;", " ", " 0:", "0 :", "00:", "01:", "000000000:", "-1:", "-0:", "+1:", "+0:", "1.:", "1e3:", "0x1:", "1_0:", "a:", "x:", "\x00:", "\u0661:",
		"1000000000:", "1234567890:", "0000000001:", "99999999999999999999999:",
		"0:6", "0:9", "0:10", "0:00", "0:01", "0:-1", "0:+1", "0:-0", "0:a", "0:\u0661", "0:4294967296", "0:18446744073709551616",
		"0:1,0", "0:1,1", "0:0,0", "0:0,2,1", "0:0,2,2", "0:0,1,6", "0:,", "0:,1", "0:1,", "0:1,,2", "0:1, 2", "0:1;2", "0:12", "0:1.2", "0:1:2", "0::", "0:1:",
	} {
		wantNoRecord(t, head, api.ErrText)
		wantNoRecord(t, head+" "+good, api.ErrText)
	}
	for _, tail := range []string{
		" ", "  ", " 0", " 00", " 0g", " g0", " 0G", " zz", " -1", "  " + good, good, "," + good, ", " + good, "\t" + good, "\n" + good,
		" " + good + " ", " " + good + "\n", " " + good + "  " + good, " " + good + "," + good, " " + good + good, " " + good + " x", " x " + good,
		" " + good[1:], " " + good[2:], " " + good[:59], " " + good[:58], " " + good + "0", " " + good + "00", " 0x" + good, " " + strings.ToUpper(good), " " + good[:30] + " " + good[30:],
		" " + strings.Replace(good, "6f", "6F", 1), " " + strings.Replace(good, "6f", "6 f", 1), " " + strings.Replace(good, "6f", "6:", 1),
	} {
		wantNoRecord(t, "0:"+tail, api.ErrText)
	}
	wantRead(t, "0: "+good, 0, nil, []api.Ask{of(0, 2, order(0, api.Buy, 10, 1, 171))})
}

// Each frame's own errors, whichever place it has; what is wrong with the text itself counts ahead, wherever it stands.
func TestReadFrames(t *testing.T) {
	good := frame(t, of(3, 2, order(0, api.Buy, 99, 1, 77)))
	behind := changed(good, 1, 77) // its error stands behind the one that is told
	for _, c := range []struct {
		s   string
		err error
	}{
		{"p" + good[1:], api.ErrSum},
		{good[:29] + string([]byte{good[29] ^ 128}), api.ErrSum},
		{strings.Repeat("\x00", 30), api.ErrSum},
		{changed(good, 20, 1), api.ErrShape},
		{changed(good, 25, 255), api.ErrShape},
		{changed(good, 0, 'x'), api.ErrKind},
		{changed(good, 1, 6), api.ErrBound},
		{changed(good, 6, 3), api.ErrBound},
		{changed(good, 7, 2), api.ErrBound},
		{changed(good, 11, 0), api.ErrBound},
		{changed(good, 15, 0), api.ErrBound},
		{changed(good, 16, 255), api.ErrBound},
		{changed(good, 0, 'h'), api.ErrShape},
		{changed(good, 0, 'c'), api.ErrShape},
	} {
		wantNoRecord(t, fmt.Sprintf("0: %x", c.s), c.err)
		wantNoRecord(t, fmt.Sprintf("0: %x %x %x", c.s, good, good), c.err)
		wantNoRecord(t, fmt.Sprintf("7:1,2 %x %x", good, c.s), c.err)
		wantNoRecord(t, fmt.Sprintf("0: %x %x %x", good, c.s, behind), c.err)
		for _, form := range []string{"0: %x x", "0: %x 0", "0: %x 0G", "0:1,1 %x", "00: %x", "0:0,6 %x"} {
			wantNoRecord(t, fmt.Sprintf(form, c.s), api.ErrText)
		}
	}
}

// P130, just so: what is read is written as it stood, so that no two texts are one record.
func TestReadJustSo(t *testing.T) {
	r := rand.New(rand.NewSource(13))
	read := 0
	for range 20000 {
		var drops []int
		for client := range 6 {
			if r.Intn(3) == 0 {
				drops = append(drops, client)
			}
		}
		var asks []api.Ask
		for range r.Intn(3) {
			asks = append(asks, of(r.Intn(6), r.Intn(9), cancel(r.Intn(3), r.Intn(1000))))
		}
		b := []byte(written(t, r.Intn(2000), drops, asks))
		const marks = "0123456789abcdef:, -+AFx"
		at := r.Intn(min(len(b), 12))
		switch r.Intn(3) {
		case 0:
			b[at] = marks[r.Intn(len(marks))]
		case 1:
			b = append(b[:at], b[at+1:]...)
		case 2:
			b = append(b[:at], append([]byte{marks[r.Intn(len(marks))]}, b[at:]...)...)
		}
		n, d, a, err := recover.Read(string(b))
		if err != nil {
			wantNoRecord(t, string(b), err)
			continue
		}
		read++
		if s := written(t, n, d, a); s != string(b) {
			t.Fatalf("Read(%q) = %d, %v, %v, which is written %q", b, n, d, a, s)
		}
	}
	if read < 3000 {
		t.Errorf("only %d were read", read)
	}
}

// Whatever it is given, it ends, and panics never; and what is answered is nobody else's.
func TestReadAnything(t *testing.T) {
	r := rand.New(rand.NewSource(14))
	for range 20000 {
		b := make([]byte, r.Intn(40))
		for i := range b {
			b[i] = "0123456789:,  ab\xff"[r.Intn(17)]
		}
		recover.Read(string(b))
	}
	for _, s := range []string{strings.Repeat("9", 1<<20) + ":", "0:" + strings.Repeat(",", 1<<20), "0:" + strings.Repeat(" ", 1<<20), "0: " + strings.Repeat("0", 1<<20)} {
		if _, _, _, err := recover.Read(s); err != api.ErrText {
			t.Errorf("Read of a long text: %v", err)
		}
	}
	s := written(t, 3, []int{1, 2}, []api.Ask{of(0, 2, cancel(0, 1)), of(1, 2, cancel(0, 2))})
	_, drops, asks, _ := recover.Read(s)
	drops[0], asks[0] = 9, api.Ask{}
	wantRead(t, s, 3, []int{1, 2}, []api.Ask{of(0, 2, cancel(0, 1)), of(1, 2, cancel(0, 2))})
}
