// Package bound: numbers and their bounds.
package bound

// Within: is x from low to high, both of them among it?
func Within(x, low, high int) bool { return low <= x && x <= high }
