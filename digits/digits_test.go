package digits_test

import (
	"math"
	"testing"

	"gavelhouse/digits"
)

func TestRead(t *testing.T) {
	for _, c := range []struct {
		s    string
		most int
		want int
	}{
		{"0", 1, 0}, {"9", 1, 9}, {"10", 2, 10}, {"7", 9, 7}, {"9999999", 7, 9999999}, {"1000000", 7, 1000000}, {"999999999", 9, 999999999},
		{"9223372036854775807", 19, math.MaxInt},
	} {
		if n, is := digits.Read(c.s, c.most); n != c.want || !is {
			t.Errorf("Read(%q, %d) = %d, %v", c.s, c.most, n, is)
		}
	}
	for _, c := range []struct {
		s    string
		most int
	}{
		{"", 7}, {" ", 7}, {"00", 7}, {"01", 7}, {"0000007", 7}, {"-1", 7}, {"-0", 7}, {"+1", 7}, {"+0", 7}, {" 1", 7}, {"1 ", 7}, {"1\n", 7}, {"\x001", 7},
		{"1_0", 7}, {"0x1", 7}, {"1e3", 7}, {"1.0", 7}, {"a", 7}, {"12a", 7}, {"٣", 7}, {"１", 7},
		{"10", 1}, {"12345678", 7}, {"0", 0}, {"", 0}, {"1", -1}, {"9223372036854775808", 19}, {"18446744073709551617", 30},
	} {
		if n, is := digits.Read(c.s, c.most); n != 0 || is {
			t.Errorf("Read(%q, %d) = %d, %v", c.s, c.most, n, is)
		}
	}
}

func TestJoin(t *testing.T) {
	for _, c := range []struct {
		between string
		numbers []int
		want    string
	}{
		{" ", nil, ""}, {":", []int{7}, "7"}, {":", []int{0, -1, 10}, "0:-1:10"}, {" ", []int{1, 2}, "1 2"}, {"", []int{1, 2}, "12"}, {", ", []int{1, 2, 3}, "1, 2, 3"},
		{" ", []int{math.MinInt, math.MaxInt}, "-9223372036854775808 9223372036854775807"},
	} {
		if got := digits.Join(c.between, c.numbers...); got != c.want {
			t.Errorf("Join(%q, %v) = %q, want %q", c.between, c.numbers, got, c.want)
		}
	}
}
