package script_test

import (
	"fmt"
	"strings"
	"testing"
)

// well: lines that are well, and what each of their words, behind the first, may not be.
var well = map[string][][]string{
	"login 0":             {noClient},
	"beat 5":              {noClient},
	"logout 3":            {noClient},
	"buy 0 0 1 1 1":       {noClient, noItem, noNumber, noPrice, noPrice},
	"sell 5 2 0 1000 1":   {noClient, noItem, noNumber, noPrice, noPrice},
	"cancel 1 1 9999999":  {noClient, noItem, noNumber},
	"tick 50":             {append([]string{"0", "51", "100", "9999999"}, noNumber...)},
	"bytes 5 x":           {noClient, nil},
	"book 2":              {noItem},
	"band 0":              {noItem},
	"has 5":               {noClient},
	"cut 9999999":         {noNumber},
	"again":               nil,
	"batches":             nil,
	"buy 5 2 7 1000 1000": {noClient, noItem, noNumber, noPrice, noPrice},
	"tick 1":              {append([]string{"0", "51"}, noNumber...)},
	"cut 0":               {noNumber},
}

var (
	noNumber = []string{"", "00", "01", "007", "-1", "-0", "+1", "0x1", "1_0", "1.", "1e1", "x", "a1", "1a", "\t1", "1\n", "\x00", "٣", "10000000", "99999999", "12345678", "9223372036854775808", "18446744073709551616", "4294967296"}
	noClient = append([]string{"6", "7", "10", "255", "256", "9999999"}, noNumber...)
	noItem   = append([]string{"3", "4", "10", "256", "9999999"}, noNumber...)
	noPrice  = append([]string{"0", "1001", "1002", "9999999"}, noNumber...)
)

// wantNone: none of these is a line, and none does anything.
func wantNone(t *testing.T, lines ...string) {
	t.Helper()
	for len(lines) > 0 {
		n := min(len(lines), 60)
		l := loginAll()
		for _, s := range lines[:n] {
			l = append(l, said{s, noLine})
		}
		l = append(l, isNew("0")...)
		l = append(l, said{"cut 1", "ok"}, said{"beat 0", "nothing"}, said{"beat 5", "nothing"}, said{"tick 2", "nothing"}, said{"batches", "0"})
		wantAnswers(t, l...)
		lines = lines[n:]
	}
}

func TestWellLines(t *testing.T) {
	for line := range well {
		if got := run(t, line)[0]; got == noLine {
			t.Errorf("%q is none", line)
		}
	}
}

// One word of a line that is not what it may be.
func TestWrongWords(t *testing.T) {
	for line, wrong := range well {
		words := strings.Split(line, " ")
		var lines []string
		for i, l := range wrong {
			for _, w := range l {
				parts := append([]string{}, words...)
				parts[1+i] = w
				lines = append(lines, strings.Join(parts, " "))
			}
		}
		wantNone(t, lines...)
	}
}

// Too few words, too many, other blanks.
func TestWrongBlanks(t *testing.T) {
	for line := range well {
		words := strings.Split(line, " ")
		lines := []string{" " + line, "\t" + line, strings.ToUpper(line), strings.ToUpper(line[:1]) + line[1:], "x" + line, strings.ReplaceAll(line, words[0], words[0]+"x")}
		for n := 1; n < len(words); n++ {
			ahead, behind := strings.Join(words[:n], " "), strings.Join(words[n:], " ")
			lines = append(lines, ahead)
			if n < 2 || words[0] != "bytes" {
				lines = append(lines, ahead+"  "+behind)
			}
			lines = append(lines, ahead+"\t"+behind, ahead+"\u00a0"+behind, ahead+behind, ahead+","+behind)
		}
		if words[0] != "bytes" {
			lines = append(lines, line+" ", line+"  ", line+"\n", line+"\r", line+"\t", line+"\x00", line+" 0", line+" x", line+" "+line)
		}
		for _, s := range lines {
			if got := run(t, s)[0]; got != noLine {
				t.Errorf("%q: %q", s, got)
			}
		}
		wantNone(t, lines...)
	}
}

func TestNoCommand(t *testing.T) {
	wantNone(t, "", " ", "  ", "what", "0", "login", "logins 0", "log 0", "place 0 0 1 1 1", "order 0 0 1 1 1", "on", "run", "sum", "recover", "ok", "nothing", "text", "gavelhouse: text", "\x00", "\xff\xfe", "\n", "batches\nbatches", "batch", strings.Repeat("batches", 1000), strings.Repeat(" ", 1000), strings.Repeat("9", 1<<16))
	for b := range 256 {
		if got := run(t, string([]byte{byte(b)}), "batches"+string([]byte{byte(b)})); got[0] != noLine || got[1] != noLine {
			t.Errorf("byte %d: %q", b, got)
		}
	}
}

// Numbers up to their bounds, one by one.
func TestBounds(t *testing.T) {
	for _, c := range []struct {
		form      string
		low, high int
	}{
		{"login %d", 0, 5}, {"beat %d", 0, 5}, {"logout %d", 0, 5}, {"has %d", 0, 5}, {"bytes %d x", 0, 5},
		{"book %d", 0, 2}, {"band %d", 0, 2}, {"tick %d", 1, 50}, {"cut %d", 0, 9999999},
		{"buy %d 0 1 1 1", 0, 5}, {"buy 0 %d 1 1 1", 0, 2}, {"buy 0 0 %d 1 1", 0, 9999999}, {"buy 0 0 1 %d 1", 1, 1000}, {"buy 0 0 1 1 %d", 1, 1000},
		{"sell %d 0 1 1 1", 0, 5}, {"sell 0 %d 1 1 1", 0, 2}, {"sell 0 0 %d 1 1", 0, 9999999}, {"sell 0 0 1 %d 1", 1, 1000}, {"sell 0 0 1 1 %d", 1, 1000},
		{"cancel %d 0 1", 0, 5}, {"cancel 0 %d 1", 0, 2}, {"cancel 0 0 %d", 0, 9999999},
	} {
		for _, n := range []int{-1, 0, 1, 2, 3, 5, 6, 9, 10, 49, 50, 51, 999, 1000, 1001, 999999, 1000000, 9999999, 10000000} {
			line := fmt.Sprintf(c.form, n)
			if is, want := run(t, line)[0] != noLine, c.low <= n && n <= c.high; is != want {
				t.Errorf("is %q a line? %v", line, is)
			}
		}
	}
}
