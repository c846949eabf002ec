package frame

import (
	"math/rand"
	"slices"
	"testing"

	"reef/api"
)

// P3.7

func TestCutOffAnywhere(t *testing.T) {
	for i, body := range bodies() {
		b := seal(t, byte(31*i), body)
		for n := range b {
			if len(b) > 2000 && n > 50 && n < len(b)-50 && n%97 > 0 {
				continue
			}
			wantError(t, b[:n:n], api.ErrShort)
		}
	}
}

func TestLongestCutOffAnywhere(t *testing.T) {
	b := seal(t, 1, rising(api.MaxBody))
	for n := range b {
		if _, _, m, e := Open(b[:n]); m != 0 || e != api.ErrShort {
			t.Fatalf("cut off behind %d bytes: %d, %v; want ErrShort", n, m, e)
		}
	}
}

// P3.8

// turn turns the bits of a pattern from a place on, of each byte from the lowest on.
func turn(b []byte, place int, pattern uint32) {
	for i := range 32 {
		if pattern>>i&1 == 1 {
			b[(place+i)/8] ^= 1 << ((place + i) % 8)
		}
	}
}

// span is how many bits lie from the lowest to the highest that is turned.
func span(pattern uint32) int {
	n := 0
	for pattern>>n > 0 {
		n++
	}
	return n
}

// wantBroken turns bits of a frame and asks that it is not taken any more as one of its length; and that it is the sum that tells, where the length is the same.
func wantBroken(t *testing.T, whole, behind []byte, place int, pattern uint32) {
	t.Helper()
	if place+span(pattern) > 8*len(whole) {
		return
	}
	b := append(slices.Clone(whole), behind...)
	turn(b, place, pattern)
	_, _, n, e := Open(b)
	if e == api.OK && n == len(whole) {
		t.Fatalf("%.40x is taken, with %b turned from bit %d on", whole, pattern, place)
	}
	if slices.Equal(b[2:5], whole[2:5]) && e != api.ErrSum {
		t.Fatalf("%.40x, with %b turned from bit %d on: %v; want ErrSum", whole, pattern, place, e)
	}
}

// short is frames that are gone through bit by bit.
func short(t *testing.T) [][]byte {
	var l [][]byte
	for i, body := range []string{"", "\x00", "\xff\xff", "hi", "123456789", "\xa7\x00\x00\x00\x00\x00\x00\x00\x00"} {
		l = append(l, seal(t, byte(51*i), []byte(body)))
	}
	return l
}

func TestShortStretches(t *testing.T) {
	behind := make([]byte, 600)
	for _, whole := range short(t) {
		for place := 8; place < 8*len(whole); place++ {
			for pattern := uint32(1); pattern < 1<<10; pattern += 2 {
				wantBroken(t, whole, behind, place, pattern)
			}
		}
	}
}

func TestLongStretches(t *testing.T) {
	r := rand.New(rand.NewSource(12))
	for _, whole := range short(t) {
		for place := 8; place < 8*len(whole); place++ {
			for bits := 11; bits <= 32; bits++ {
				for range 20 {
					within := r.Uint32() >> (32 - bits)
					wantBroken(t, whole, nil, place, within|1<<(bits-1)|1)
				}
				wantBroken(t, whole, nil, place, 1<<(bits-1)|1)
				wantBroken(t, whole, nil, place, 1<<bits-1)
			}
		}
	}
}

func TestStretchesOfLongFrames(t *testing.T) {
	r := rand.New(rand.NewSource(13))
	for _, n := range []int{255, 256, 5000, 65536, api.MaxBody} {
		whole := seal(t, 77, chance(r, n))
		times := 400
		if n > 10000 {
			times = 30
		}
		for range times {
			wantBroken(t, whole, nil, 40+r.Intn(8*len(whole)-40), r.Uint32()|1)
		}
		// Across the end of the body, within the sum, and at the kind.
		for _, place := range []int{8*len(whole) - 63, 8*len(whole) - 40, 8*len(whole) - 33, 8*len(whole) - 32, 8*len(whole) - 1, 8, 9, 15} {
			wantBroken(t, whole, nil, place, 1)
			wantBroken(t, whole, nil, place, 1<<31|r.Uint32()|1)
			wantBroken(t, whole, nil, place, 1<<(8*len(whole)-place)-1)
		}
	}
}

// A kind or a length that was changed is told by the sum, and not only by where the sum is sought then.
func TestChangedHeads(t *testing.T) {
	whole := seal(t, 7, make([]byte, 300))
	for kind := range 256 {
		if kind != 7 {
			b := slices.Clone(whole)
			b[1] = byte(kind)
			wantError(t, b, api.ErrSum)
		}
	}
	for n := range 300 {
		b := slices.Clone(whole)
		b[2], b[3] = byte(n), byte(n>>8)
		wantError(t, b, api.ErrSum)
	}
}
