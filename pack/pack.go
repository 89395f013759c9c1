// Package pack: numbers, texts and lists as bytes; a sum over bytes (layer 1).
package pack

// sumBase is the greatest prime below 2^16: what both halves of a sum are reckoned by.
const sumBase = 65521

// Sum is the Adler-32 sum of bytes.
func Sum(b []byte) uint32 {
	low, high := uint32(1), uint32(0)
	for _, x := range b {
		low = (low + uint32(x)) % sumBase
		high = (high + low) % sumBase
	}
	return high<<16 | low
}

// nanBits is the one form that everything has that is not a number.
const nanBits = 0x7FF8 << 48

// sizeBytes is how many bytes the length of a text, or the count of a list, has.
const sizeBytes = 4
