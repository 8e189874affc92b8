package tape_test

import (
	"hash/crc32"
	"math"
	"slices"
	"strings"
	"testing"

	"gavelhouse/api"
	"gavelhouse/tape"
)

const (
	room    = 1 << 20 // bytes of a disk
	longest = 10000   // bytes of a record's text
	around  = 12      // bytes of a record beside its text
)

// written: a record, made without the program, with a length of its own.
func written(size uint32, s string) string {
	v := crc32.ChecksumIEEE([]byte(s))
	b := []byte{byte(size >> 24), byte(size >> 16), byte(size >> 8), byte(size)}
	b = append(b, ^b[0], ^b[1], ^b[2], ^b[3])
	return string(b) + s + string([]byte{byte(v), byte(v >> 8), byte(v >> 16), byte(v >> 24)})
}

func record(s string) string { return written(uint32(len(s)), s) }

func records(l []string) string {
	var b strings.Builder
	for _, s := range l {
		b.WriteString(record(s))
	}
	return b.String()
}

func disk(t *testing.T, b string) *tape.Disk {
	t.Helper()
	d, err := tape.NewDisk(b)
	if err != nil || d == nil {
		t.Fatalf("NewDisk of %d bytes: %v, %v", len(b), d, err)
	}
	return d
}

func wantErr(t *testing.T, what string, got, want error) {
	t.Helper()
	if got != want {
		t.Errorf("%s: %v, want %v", what, got, want)
	}
}

func wantDisk(t *testing.T, what string, d *tape.Disk, bytes string, power bool) {
	t.Helper()
	if got := d.Bytes(); got != bytes {
		t.Errorf("%s: %d bytes %.40q, want %d bytes %.40q", what, len(got), got, len(bytes), bytes)
	}
	if d.Power() != power {
		t.Errorf("%s: power is %v", what, d.Power())
	}
}

func wantTexts(t *testing.T, what string, got, want []string) {
	t.Helper()
	if !slices.Equal(got, want) {
		t.Errorf("%s: %.60q, want %.60q", what, got, want)
	}
}

func TestNewDisk(t *testing.T) {
	for _, b := range []string{"", "a", "\x00\xff\x80", strings.Repeat("x", room-1), strings.Repeat("x", room)} {
		wantDisk(t, "a new disk", disk(t, b), b, true)
	}
	for _, n := range []int{room + 1, room + 2, 3 * room} {
		d, err := tape.NewDisk(strings.Repeat("x", n))
		wantErr(t, "NewDisk of too many bytes", err, api.ErrBound)
		if d != nil {
			t.Errorf("a disk of %d bytes came with the error", n)
		}
	}
}

func TestDisksAreApart(t *testing.T) {
	a, b := disk(t, "same"), disk(t, "same")
	wantErr(t, "Append", tape.Append(a, "x"), nil)
	wantErr(t, "Cut", a.Cut(0), nil)
	wantDisk(t, "the other disk", b, "same", true)
}

func TestCutErrors(t *testing.T) {
	d := disk(t, "abc")
	for _, n := range []int{-1, -2, math.MinInt} {
		wantErr(t, "Cut below 0", d.Cut(n), api.ErrBound)
		wantDisk(t, "Cut below 0", d, "abc", true)
	}
	wantErr(t, "Append behind refused cuts", tape.Append(d, "x"), nil)
	wantErr(t, "Cut", d.Cut(0), nil)
	for _, n := range []int{0, 1, math.MaxInt} {
		wantErr(t, "Cut without power", d.Cut(n), api.ErrOff)
	}
	wantErr(t, "Cut below 0 without power", d.Cut(-1), api.ErrBound)
	wantDisk(t, "refused cuts", d, "abc"+record("x"), false)
}

// Power fails when the bytes are written, not with the next ones.
func TestCutAtTheEndOfARecord(t *testing.T) {
	d := disk(t, "")
	wantErr(t, "Cut", d.Cut(len(record("abc"))+len(record("de"))), nil)
	wantErr(t, "Append", tape.Append(d, "abc"), nil)
	wantDisk(t, "ahead of the cut", d, record("abc"), true)
	wantErr(t, "Append up to the cut", tape.Append(d, "de"), nil)
	wantDisk(t, "at the cut", d, record("abc")+record("de"), false)
	wantErr(t, "Append behind the cut", tape.Append(d, ""), api.ErrOff)
	wantErr(t, "Cut behind the cut", d.Cut(1), api.ErrOff)
	wantDisk(t, "behind the cut", d, record("abc")+record("de"), false)
}

func TestCutAtOnce(t *testing.T) {
	d := disk(t, "abc")
	wantErr(t, "Cut", d.Cut(0), nil)
	wantDisk(t, "cut at once", d, "abc", false)
	wantErr(t, "Append", tape.Append(d, "x"), api.ErrOff)
	wantDisk(t, "cut at once", d, "abc", false)
}

// A later Cut counts from where it is asked for, and stands for the one ahead.
func TestCutAnew(t *testing.T) {
	for _, first := range []int{1, 5, 13, 1000, math.MaxInt} {
		for _, second := range []int{0, 1, 5, 13, 14, 20} {
			d := disk(t, "")
			wantErr(t, "Cut", d.Cut(first), nil)
			wantErr(t, "Cut anew", d.Cut(second), nil)
			tape.Append(d, "a")
			tape.Append(d, "b")
			wantDisk(t, "cut anew", d, (record("a") + record("b"))[:second], false)
		}
	}
	d := disk(t, "")
	wantErr(t, "Cut", d.Cut(20), nil)
	wantErr(t, "Append", tape.Append(d, "a"), nil)
	wantErr(t, "Cut anew", d.Cut(20), nil)
	wantErr(t, "Append", tape.Append(d, "b"), nil)
	wantErr(t, "Append into the cut", tape.Append(d, "c"), api.ErrOff)
	wantDisk(t, "cut anew", d, (record("a") + record("b") + record("c"))[:33], false)
}

func TestOn(t *testing.T) {
	d := disk(t, "")
	d.On()
	wantDisk(t, "On of a new disk", d, "", true)
	wantErr(t, "Cut", d.Cut(5), nil)
	d.On()
	wantErr(t, "Append when no cut waits", tape.Append(d, strings.Repeat("x", 500)), nil)
	whole := record(strings.Repeat("x", 500))
	wantDisk(t, "On ahead of a cut", d, whole, true)
	wantErr(t, "Cut", d.Cut(3), nil)
	wantErr(t, "Append into the cut", tape.Append(d, "y"), api.ErrOff)
	d.On()
	wantDisk(t, "On behind a cut", d, whole+record("y")[:3], true)
	wantErr(t, "Append at the end, as it is", tape.Append(d, "z"), nil)
	wantDisk(t, "Append behind On", d, whole+record("y")[:3]+record("z"), true)
	wantErr(t, "Cut once more", d.Cut(0), nil)
	d.On()
	wantErr(t, "Cut behind On", d.Cut(7), nil)
}

// No Cut waits any more, however much is written.
func TestOnUntilFull(t *testing.T) {
	d := disk(t, "")
	wantErr(t, "Cut", d.Cut(room/2), nil)
	d.On()
	text := strings.Repeat("x", longest)
	for range room / (longest + around) {
		wantErr(t, "Append", tape.Append(d, text), nil)
	}
	wantErr(t, "Append without room", tape.Append(d, text), api.ErrFull)
	if !d.Power() {
		t.Error("power is off")
	}
}

func TestZeroDisk(t *testing.T) {
	var d tape.Disk
	wantErr(t, "Append", tape.Append(&d, "abc"), nil)
	wantDisk(t, "the zero disk", &d, record("abc"), true)
	l, err := tape.Recover(&tape.Disk{})
	wantErr(t, "Recover", err, nil)
	wantTexts(t, "Recover of the zero disk", l, nil)
}
