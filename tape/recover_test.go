package tape_test

import (
	"math/rand"
	"strings"
	"testing"

	"gavelhouse/api"
	"gavelhouse/tape"
)

func wantRecover(t *testing.T, what string, d *tape.Disk, want []string) {
	t.Helper()
	l, err := tape.Recover(d)
	wantErr(t, what, err, nil)
	wantTexts(t, what, l, want)
	wantDisk(t, what, d, records(want), true)
}

func TestRecover(t *testing.T) {
	l, err := tape.Recover(nil)
	wantErr(t, "Recover of no disk", err, api.ErrShape)
	wantTexts(t, "Recover of no disk", l, nil)
	long := strings.Repeat("x", longest)
	for _, l := range [][]string{nil, {""}, {"a", "", "b\x00\xff"}, {long, long}} {
		for _, behind := range []string{"", "abc", record("z")[:12], strings.Repeat("\x00", 50), "!" + record("z")} {
			d := disk(t, records(l)+behind)
			wantRecover(t, "Recover", d, l)
			wantRecover(t, "Recover again", d, l)
			wantErr(t, "Append", tape.Append(d, "new"), nil)
			wantDisk(t, "Append", d, records(l)+record("new"), true)
		}
	}
}

func TestRecoverGivesPowerAndRoom(t *testing.T) {
	d := disk(t, record("a")+strings.Repeat("f", room-len(record("a"))))
	wantErr(t, "Append without room", tape.Append(d, ""), api.ErrFull)
	wantErr(t, "Cut", d.Cut(0), nil)
	wantRecover(t, "Recover without power", d, []string{"a"})
	wantErr(t, "Cut", d.Cut(3), nil)
	wantRecover(t, "Recover while a cut waits", d, []string{"a"})
	wantErr(t, "Append", tape.Append(d, strings.Repeat("x", longest)), nil)
	wantErr(t, "Cut", d.Cut(1), nil)
}

// What was answered stays as it is, whatever is written later.
func TestAnswersAreNotWrittenOver(t *testing.T) {
	d := disk(t, records([]string{"one", "two"})+"rest that is long enough")
	ahead := d.Bytes()
	l, _ := tape.Recover(d)
	behind := d.Bytes()
	wantErr(t, "Append", tape.Append(d, "three"), nil)
	wantTexts(t, "texts", l, []string{"one", "two"})
	if ahead != records([]string{"one", "two"})+"rest that is long enough" || behind != records([]string{"one", "two"}) {
		t.Errorf("bytes that were answered are now %q and %q", ahead, behind)
	}
	l[0] = "changed"
	wantRecover(t, "texts changed from outside", d, []string{"one", "two", "three"})
}

func TestRecoverAtEachCut(t *testing.T) {
	texts := []string{"first", "", "\x00\x00\x00\x00\xff\xff\xff\xff\x00\x00\x00\x00", record("within"), strings.Repeat("y", 100)}
	for n := range len(records(texts)) + 20 {
		d := disk(t, "")
		wantErr(t, "Cut", d.Cut(n), nil)
		var done []string
		for _, s := range texts {
			if tape.Append(d, s) == nil {
				done = append(done, s)
			}
		}
		if got, want := d.Bytes(), records(texts); got != want[:min(n, len(want))] {
			t.Errorf("cut at %d: %q", n, got)
		}
		wantRecover(t, "cut", d, done)
	}
}

// Cuts in a row, on one disk, until it is full: what is recovered is what was appended with no error.
func TestWhereverPowerIsCut(t *testing.T) {
	for seed := range int64(4) {
		r := rand.New(rand.NewSource(seed))
		d := disk(t, "")
		var done []string
		cuts := 0
		for last := error(nil); last != api.ErrFull && cuts < 1000; cuts++ {
			wantErr(t, "Cut", d.Cut(r.Intn(60000)), nil)
			var more []string
			more, last = appendUntil(d, r)
			done = append(done, more...)
			wantRecover(t, "cut", d, done)
		}
		if len(done) < 100 || cuts < 10 || cuts == 1000 {
			t.Errorf("%d records, %d cuts", len(done), cuts)
		}
	}
}

// appendUntil there is an error: the texts ahead of it.
func appendUntil(d *tape.Disk, r *rand.Rand) ([]string, error) {
	var done []string
	for {
		s := strings.Repeat(string([]byte{byte(r.Intn(256))}), r.Intn(longest+1))
		if err := tape.Append(d, s); err != nil {
			return done, err
		}
		done = append(done, s)
	}
}
