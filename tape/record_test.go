package tape_test

import (
	"math/rand"
	"strings"
	"testing"

	"gavelhouse/api"
	"gavelhouse/tape"
)

func TestRecordBytes(t *testing.T) {
	for s, want := range map[string]string{
		"":                       "\x00\x00\x00\x00" + "\xff\xff\xff\xff" + "\x00\x00\x00\x00",
		"123456789":              "\x00\x00\x00\x09" + "\xff\xff\xff\xf6" + "123456789" + "\x26\x39\xf4\xcb",
		strings.Repeat("x", 258): "\x00\x00\x01\x02" + "\xff\xff\xfe\xfd" + record(strings.Repeat("x", 258))[8:],
	} {
		d := disk(t, "")
		wantErr(t, "Append", tape.Append(d, s), nil)
		wantDisk(t, "a record", d, want, true)
	}
}

func TestAppendAtTheEnd(t *testing.T) {
	d := disk(t, "ahead")
	want := "ahead"
	for _, s := range []string{"", "a", "a\x00b\xff", "Grüße", strings.Repeat("\x00", longest), "", strings.Repeat("y", longest-1)} {
		wantErr(t, "Append", tape.Append(d, s), nil)
		want += record(s)
		wantDisk(t, "Append", d, want, true)
	}
}

func TestAppendErrors(t *testing.T) {
	long := strings.Repeat("x", longest+1)
	full := strings.Repeat("f", room)
	for _, c := range []struct {
		what  string
		bytes string
		cut   bool
		text  string
		want  error
	}{
		{"the longest text", "b", false, long[1:], nil},
		{"a text too long", "b", false, long, api.ErrBound},
		{"a text far too long", "b", false, strings.Repeat("x", 2*room), api.ErrBound},
		{"a text too long, no room", full, true, long, api.ErrBound},
		{"a text too long, no power", "b", true, long, api.ErrBound},
		{"just room", full[around:], false, "", nil},
		{"a byte short of room", full[around-1:], false, "", api.ErrFull},
		{"just room for a text", full[around+5:], false, "12345", nil},
		{"a byte short of room for a text", full[around+4:], false, "12345", api.ErrFull},
		{"just room for the longest", full[around+longest:], false, long[1:], nil},
		{"a byte short of room for the longest", full[around+longest-1:], false, long[1:], api.ErrFull},
		{"no room at all", full, false, "", api.ErrFull},
		{"no room, no power", full, true, "", api.ErrFull},
		{"no power", "b", true, "", api.ErrOff},
		{"just room, no power", full[around:], true, "", api.ErrOff},
	} {
		d := disk(t, c.bytes)
		if c.cut {
			wantErr(t, c.what, d.Cut(0), nil)
		}
		wantErr(t, c.what, tape.Append(d, c.text), c.want)
		want := c.bytes
		if c.want == nil {
			want += record(c.text)
		}
		wantDisk(t, c.what, d, want, !c.cut)
	}
	wantErr(t, "no disk", tape.Append(nil, "x"), api.ErrShape)
	wantErr(t, "no disk, a text too long", tape.Append(nil, long), api.ErrShape)
}

// A record for which there is no room takes nothing of what a Cut waits for.
func TestRefusedRecordsAreNotCounted(t *testing.T) {
	d := disk(t, strings.Repeat("f", room-20))
	wantErr(t, "Cut", d.Cut(15), nil)
	wantErr(t, "Append of too much", tape.Append(d, strings.Repeat("x", longest+1)), api.ErrBound)
	wantErr(t, "Append without room", tape.Append(d, "123456789"), api.ErrFull)
	wantErr(t, "Append ahead of the cut", tape.Append(d, "ab"), nil)
	wantDisk(t, "ahead of the cut", d, strings.Repeat("f", room-20)+record("ab"), true)
}

func TestAppendCutShort(t *testing.T) {
	whole := record("ab") + record("some text")
	for n := range whole {
		d := disk(t, "old")
		wantErr(t, "Cut", d.Cut(n), nil)
		wantAppend := func(s string, end int) {
			t.Helper()
			want := error(nil)
			if n < end {
				want = api.ErrOff
			}
			wantErr(t, "Append", tape.Append(d, s), want)
			wantDisk(t, "Append", d, "old"+whole[:min(n, end)], n > end)
		}
		wantAppend("ab", 14)
		wantAppend("some text", 35)
		wantErr(t, "Append without power", tape.Append(d, "more"), api.ErrOff)
		wantDisk(t, "Append without power", d, "old"+whole[:n], false)
	}
}

func TestAnErrorIsTheSameAgain(t *testing.T) {
	d := disk(t, "")
	wantErr(t, "Cut", d.Cut(4), nil)
	for range 3 {
		wantErr(t, "Append", tape.Append(d, "abc"), api.ErrOff)
		wantDisk(t, "Append", d, record("abc")[:4], false)
	}
}

func wantRead(t *testing.T, what, b string, texts []string) {
	t.Helper()
	l, n := tape.Read(b)
	wantTexts(t, what, l, texts)
	if want := len(records(texts)); n != want {
		t.Errorf("%s: %d bytes, want %d", what, n, want)
	}
}

func TestRead(t *testing.T) {
	long := strings.Repeat("x", longest)
	for _, l := range [][]string{nil, {""}, {"", "", ""}, {"a"}, {"a", "", "bc"}, {long, "\x00\xff", long[1:]}} {
		wantRead(t, "whole records", records(l), l)
		for _, behind := range []string{"x", "\x00", "\x00\x00\x00\x00", "\x00\x00\x00\x00\xff\xff\xff\xff", strings.Repeat("\x00", 100), strings.Repeat("\xff", 100), record("z")[:12]} {
			wantRead(t, "bytes behind records", records(l)+behind, l)
			wantRead(t, "a record behind what is none", records(l)+behind+"!"+record("z"), l)
		}
	}
	wantRead(t, "more than a disk has", strings.Repeat(record(long), 200), strings.Split(strings.Repeat(long+" ", 199)+long, " "))
}

func TestReadCutShort(t *testing.T) {
	l := []string{"first", "", "the third", strings.Repeat("y", 300)}
	whole, end, k := records(l), 0, 0
	for n := range len(whole) + 1 {
		if k < len(l) && n == end+around+len(l[k]) {
			end, k = n, k+1
		}
		wantRead(t, "cut short", whole[:n], l[:k])
	}
}

func TestReadTurnedBits(t *testing.T) {
	l := []string{"ahead", "turned", "behind"}
	whole := records(l)
	for at := len(record("ahead")); at < len(whole)-len(record("behind")); at++ {
		for bit := range 8 {
			b := []byte(whole)
			b[at] ^= 1 << bit
			wantRead(t, "a bit is turned", string(b), l[:1])
		}
	}
}

func TestReadLengths(t *testing.T) {
	long := strings.Repeat("x", longest+1)
	wantRead(t, "the longest text", record(long[1:]), []string{long[1:]})
	wantRead(t, "a text too long", record("a")+record(long), []string{"a"})
	wantRead(t, "a text far too long", record(strings.Repeat("x", 1<<16)), nil)
	for _, size := range []uint32{1, 2, 4, 5, 15, 1 << 16, 1 << 24, 1 << 31, 1<<31 + 3, 1<<32 - 1, 1<<32 - 12, 1<<32 - 9} {
		wantRead(t, "a length of its own", written(size, "abc"), nil)
	}
	good := record("abc")
	wantRead(t, "a length told twice the same way", good[:4]+good[:4]+good[8:], nil)
	wantRead(t, "a length told the other way round", good[4:8]+good[:4]+good[8:], nil)
	wantRead(t, "a length, the lowest first", "\x03\x00\x00\x00\xfc\xff\xff\xff"+good[8:], nil)
	wantRead(t, "a sum, the highest first", good[:11]+string([]byte{good[14], good[13], good[12], good[11]}), nil)
	wantRead(t, "no sum", good[:11]+"\x00\x00\x00\x00", nil)
}

// Of any bytes there are, what Read answers is what they begin with.
func TestReadOfAnyBytes(t *testing.T) {
	r := rand.New(rand.NewSource(3))
	pieces := []string{record(""), record("a"), record("abc"), record("abc")[:9], "\x00", "\xff\xff\xff\xff", "a"}
	for range 20000 {
		var b strings.Builder
		for range r.Intn(8) {
			b.WriteString(pieces[r.Intn(len(pieces))])
		}
		s := b.String()
		l, n := tape.Read(s)
		if n < 0 || n > len(s) || s[:n] != records(l) {
			t.Fatalf("Read(%x) = %q, %d", s, l, n)
		}
		for _, p := range pieces[:3] {
			if strings.HasPrefix(s[n:], p) {
				t.Fatalf("Read(%x) stopped at %d, at a record", s, n)
			}
		}
	}
}
