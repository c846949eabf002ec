// Package hash is layer 1: see shared/doc/01-hash.md.
package hash

import "math/bits"

// Where a mix begins, and what it is multiplied by at each byte.
const (
	start32 uint32 = 2166136261
	prime32 uint32 = 16777619
	start64 uint64 = 14695981039346656037
	prime64 uint64 = 1099511628211
)

// word is what bytes are mixed to.
type word interface{ uint32 | uint64 }

// mixByte mixes one byte in.
func mixByte[W word](h, prime W, b byte) W {
	return (h ^ W(b)) * prime
}

// mixText mixes a text's bytes in.
func mixText[W word](h, prime W, s string) W {
	for i := range len(s) {
		h = mixByte(h, prime, s[i])
	}
	return h
}

// mixWords mixes the bytes of words in, of each its lowest byte first.
func mixWords[W word](h, prime W, l []W) W {
	wide := bits.Len64(uint64(^W(0))) / 8
	for _, w := range l {
		for range wide {
			h = mixByte(h, prime, byte(w))
			w >>= 8
		}
	}
	return h
}

// finish32 spreads what each bit says over all others: without it, texts that differ in their last byte alone would stand close together.
func finish32(h uint32) uint32 {
	h = (h ^ h>>16) * 0x85ebca6b
	h = (h ^ h>>13) * 0xc2b2ae35
	return h ^ h>>16
}

// finish64 brings the upper half, which has mixed best, down to the lower one.
func finish64(h uint64) uint64 { return h ^ h>>32 }

// Words mixes words into one.
func Words(l ...uint32) uint32 { return finish32(mixWords(start32, prime32, l)) }

// Text mixes a text.
func Text(s string) uint32 { return finish32(mixText(start32, prime32, s)) }

// Digest is a sum of 64 bits.
func Digest(s string) uint64 { return finish64(mixText(start64, prime64, s)) }

// Join is the digest of several, in their order.
func Join(l []uint64) uint64 { return finish64(mixWords(start64, prime64, l)) }

// Log is the logarithm to the base 2, in parts of 65536; that of 0 is 0.
func Log(x uint32) uint32 {
	if x == 0 {
		return 0
	}
	top := bits.Len32(x) - 1
	l := uint32(top)
	// y is x as a number from 1 up to 2, in parts of 2^31: squared, it has twice the logarithm, so that each overflow past 2 is the next bit of the fraction.
	y := uint64(x) << (31 - top)
	for range 16 {
		y = y * y >> 31
		l <<= 1
		if y >= 1<<32 {
			y >>= 1
			l |= 1
		}
	}
	return l
}
