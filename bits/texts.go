package bits

import mathbits "math/bits"

const (
	hashBasis uint64 = 14695981039346656037
	hashPrime uint64 = 1099511628211
	// spread makes the hash's highest bits hang on all of its bits.
	spread     uint64 = 11400714819323198485
	heightBits        = 24
)

// Hash tells a text's number (P1.21).
func Hash(s string) uint64 {
	h := hashBasis
	for i := range len(s) {
		h = (h ^ uint64(s[i])) * hashPrime
	}
	return h
}

// Height tells how tall a key stands (P1.22).
func Height(key string, levels int) int {
	if levels < 1 {
		return 0
	}
	zeros := mathbits.TrailingZeros64(Hash(key) * spread >> (64 - heightBits))
	return min(1+min(zeros, heightBits), levels)
}
