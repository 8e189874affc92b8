// Package four: numbers in four bytes.
package four

// AppendHigh: behind b, the highest byte first.
func AppendHigh(b []byte, x uint32) []byte {
	return append(b, byte(x>>24), byte(x>>16), byte(x>>8), byte(x))
}

// High: what AppendHigh wrote; s has at least four bytes.
func High(s string) uint32 {
	return uint32(s[0])<<24 | uint32(s[1])<<16 | uint32(s[2])<<8 | uint32(s[3])
}

// AppendLow: behind b, the lowest byte first.
func AppendLow(b []byte, x uint32) []byte {
	return append(b, byte(x), byte(x>>8), byte(x>>16), byte(x>>24))
}

// Low: what AppendLow wrote; s has at least four bytes.
func Low(s string) uint32 {
	return uint32(s[0]) | uint32(s[1])<<8 | uint32(s[2])<<16 | uint32(s[3])<<24
}
