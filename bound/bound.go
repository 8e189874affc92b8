// Package bound: numbers and their bounds.
package bound

import "gavelhouse/api"

// Within: is x from low to high, both of them among it?
func Within(x, low, high int) bool { return low <= x && x <= high }

// Apart: how far a and b are from each other; what lies between them is no more than an int holds.
func Apart(a, b int) int { return max(a, b) - min(a, b) }

// IsClient: is there a client of this number?
func IsClient(n int) bool { return Within(n, 0, api.Clients-1) }
