// Package digits: numbers in decimal digits.
package digits

import (
	"strconv"
	"strings"
)

// Read a number that is not below 0, of at most so many digits, none of them needless; false: it is none.
func Read(s string, most int) (int, bool) {
	if len(s) > most {
		return 0, false
	}
	n, err := strconv.Atoi(s)
	if err != nil || n < 0 || strconv.Itoa(n) != s {
		return 0, false
	}
	return n, true
}

// Join numbers, with this between them.
func Join(between string, numbers ...int) string {
	parts := make([]string, 0, len(numbers))
	for _, n := range numbers {
		parts = append(parts, strconv.Itoa(n))
	}
	return strings.Join(parts, between)
}
