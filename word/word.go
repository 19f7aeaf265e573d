// Package word writes numbers of 32 bits as four bytes, the high one first.
package word

// Size is how many bytes a number has.
const Size = 4

// Append puts the bytes of a number behind b.
func Append(b []byte, n uint32) []byte {
	return append(b, byte(n>>24), byte(n>>16), byte(n>>8), byte(n))
}

// Read makes a number of the first four bytes of b; there must be so many.
func Read(b []byte) uint32 {
	return uint32(b[0])<<24 | uint32(b[1])<<16 | uint32(b[2])<<8 | uint32(b[3])
}
