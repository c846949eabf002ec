package frame

import "math/bits"

// nibbles is what each four bits that leave a sum lay over the rest of it, by the polynomial of Castagnoli with its bits turned round: few enough to be written out, and a byte takes two steps instead of eight.
var nibbles = [16]uint32{
	0x00000000, 0x105ec76f, 0x20bd8ede, 0x30e349b1,
	0x417b1dbc, 0x5125dad3, 0x61c69362, 0x7198540d,
	0x82f63b78, 0x92a8fc17, 0xa24bb5a6, 0xb21572c9,
	0xc38d26c4, 0xd3d3e1ab, 0xe330a81a, 0xf36e6f75,
}

// sumByte is a sum, not turned yet, with a byte more.
func sumByte(sum uint32, b byte) uint32 {
	sum ^= uint32(b)
	sum = sum>>4 ^ nibbles[sum&15]
	return sum>>4 ^ nibbles[sum&15]
}

// bitMap is a map from sums to sums of which each bit goes its own way: what each bit comes to, to be laid over one another.
type bitMap [32]uint32

// zeroByte is the map that lays a byte 0 behind a sum that is not turned.
func zeroByte() bitMap {
	var m bitMap
	for i := range m {
		m[i] = sumByte(1<<i, 0)
	}
	return m
}

// of is what a sum comes to.
func (m bitMap) of(sum uint32) uint32 {
	var x uint32
	for ; sum != 0; sum &= sum - 1 {
		x ^= m[bits.TrailingZeros32(sum)]
	}
	return x
}

// squared is the map done twice: it lays twice as many zeros.
func (m bitMap) squared() bitMap {
	var s bitMap
	for i, x := range m {
		s[i] = m.of(x)
	}
	return s
}

// layZeros lays n bytes 0 behind a sum, in as many steps as n has bits: n may be any number.
func layZeros(sum uint32, n int) uint32 {
	m := zeroByte()
	for ; n > 0; n >>= 1 {
		if n&1 == 1 {
			sum = m.of(sum)
		}
		m = m.squared()
	}
	return sum
}
