package frame

import (
	"hash/crc32"
	"math"
	"math/rand"
	"slices"
	"strings"
	"testing"
)

// library is the library's sum, which was made apart from this package.
func library(b []byte) uint32 { return crc32.Checksum(b, crc32.MakeTable(crc32.Castagnoli)) }

// byBits is the chapter's sum, bit by bit, by the polynomial as it stands there.
func byBits(b []byte) uint32 {
	const poly = 0x1edc6f41
	h := uint32(math.MaxUint32)
	for _, c := range b {
		for i := range 8 {
			out := h>>31 ^ uint32(c>>i)&1
			h <<= 1
			if out == 1 {
				h ^= poly
			}
		}
	}
	var turned uint32
	for i := range 32 {
		turned |= h >> i & 1 << (31 - i)
	}
	return ^turned
}

// chance is n bytes of all kinds.
func chance(r *rand.Rand, n int) []byte {
	b := make([]byte, n)
	r.Read(b)
	return b
}

// rising is n bytes that rise from 0 on.
func rising(n int) []byte {
	b := make([]byte, n)
	for i := range b {
		b[i] = byte(i)
	}
	return b
}

// roomy is the same bytes with others in their spare room.
func roomy(b []byte) []byte {
	room := append(slices.Clone(b), "spare room"...)
	return room[:len(b)]
}

// P3.1

func TestSumKnown(t *testing.T) {
	falling := rising(32)
	slices.Reverse(falling)
	for _, c := range []struct {
		b    string
		want uint32
	}{
		{"", 0},
		{"123456789", 0xe3069283},
		{"a", 0xc1d04330},
		{"\x00", 0x527d5351},
		{"\xff", 0xff000000},
		{strings.Repeat("\x00", 32), 0x8a9136aa},
		{strings.Repeat("\xff", 32), 0x62a8ab43},
		{string(rising(32)), 0x46dd794e},
		{string(falling), 0x113fdb5c},
	} {
		if got := Sum([]byte(c.b)); got != c.want {
			t.Errorf("Sum(%q): %08x; want %08x", c.b, got, c.want)
		}
	}
	if Sum(nil) != 0 || Sum([]byte{}) != 0 {
		t.Error("the sum of nothing is not 0")
	}
}

func TestSumOfEachByte(t *testing.T) {
	for c := range 256 {
		b := []byte{byte(c)}
		if got, want := Sum(b), byBits(b); got != want {
			t.Errorf("Sum(%x): %08x; want %08x", b, got, want)
		}
	}
}

func TestSumOfManyLengths(t *testing.T) {
	r := rand.New(rand.NewSource(1))
	for n := range 300 {
		b := chance(r, n)
		got := Sum(b)
		if want := byBits(b); got != want {
			t.Fatalf("Sum of %d bytes: %08x; want %08x", n, got, want)
		}
		if want := library(b); got != want {
			t.Fatalf("Sum of %d bytes: %08x; the library says %08x", n, got, want)
		}
	}
	for _, n := range []int{1<<16 - 1, 1 << 20, 3<<20 + 7} {
		b := chance(r, n)
		if got, want := Sum(b), library(b); got != want {
			t.Errorf("Sum of %d bytes: %08x; want %08x", n, got, want)
		}
	}
}

func TestSumTellsZeros(t *testing.T) {
	seen := map[uint32]int{}
	for n := range 200 {
		s := Sum(make([]byte, n))
		if m, ok := seen[s]; ok {
			t.Errorf("%d zeros and %d have one sum", m, n)
		}
		seen[s] = n
	}
}

func TestSumLeavesItsBytes(t *testing.T) {
	b := roomy([]byte("123456789"))
	if got := Sum(b); got != 0xe3069283 {
		t.Errorf("with spare room: %08x", got)
	}
	if string(b[:cap(b)][:19]) != "123456789spare room" {
		t.Errorf("its bytes were changed: %q", b[:cap(b)])
	}
}

// P3.5 and P3.9

func TestJoinKnown(t *testing.T) {
	const whole = "123456789"
	for i := range len(whole) + 1 {
		a, b := []byte(whole[:i]), []byte(whole[i:])
		if got := Join(Sum(a), Sum(b), len(b)); got != 0xe3069283 {
			t.Errorf("Join of %q and %q: %08x", a, b, got)
		}
	}
}

func TestJoinOfNothing(t *testing.T) {
	sums := []uint32{0, 1, 7, 0x80000000, 0xe3069283, math.MaxUint32}
	for _, a := range sums {
		for _, b := range sums {
			for _, n := range []int{0, -1, -2, -8, -1 << 32, math.MinInt + 1, math.MinInt} {
				if got := Join(a, b, n); got != a {
					t.Errorf("Join(%x, %x, %d): %x; want the first", a, b, n, got)
				}
			}
		}
	}
	for n := range 100 {
		s := Sum(rising(n))
		if got := Join(Sum(nil), s, n); got != s {
			t.Errorf("nothing and %d bytes: %08x; want %08x", n, got, s)
		}
		if got := Join(s, Sum(nil), 0); got != s {
			t.Errorf("%d bytes and nothing: %08x; want %08x", n, got, s)
		}
	}
}

func TestJoinAtEveryPlace(t *testing.T) {
	r := rand.New(rand.NewSource(2))
	for _, n := range []int{1, 2, 31, 32, 33, 257, 1000} {
		b := chance(r, n)
		want := library(b)
		for i := range n + 1 {
			if got := Join(Sum(b[:i]), Sum(b[i:]), n-i); got != want {
				t.Fatalf("%d and %d bytes: %08x; want %08x", i, n-i, got, want)
			}
		}
	}
}

func TestJoinOfLongPieces(t *testing.T) {
	r := rand.New(rand.NewSource(3))
	b := chance(r, 3<<20)
	want := library(b)
	for _, i := range []int{0, 1, 2, 1 << 20, 1<<20 + 1, 1<<21 - 1, len(b) - 1, len(b)} {
		if got := Join(Sum(b[:i]), Sum(b[i:]), len(b)-i); got != want {
			t.Errorf("%d and %d bytes: %08x; want %08x", i, len(b)-i, got, want)
		}
	}
}

func TestJoinOfManyPieces(t *testing.T) {
	r := rand.New(rand.NewSource(4))
	var all []byte
	var ahead uint32
	type piece struct {
		sum  uint32
		size int
	}
	var pieces []piece
	for range 300 {
		b := chance(r, r.Intn(40)*r.Intn(2))
		all = append(all, b...)
		ahead = Join(ahead, Sum(b), len(b))
		pieces = append(pieces, piece{Sum(b), len(b)})
	}
	want := library(all)
	if ahead != want {
		t.Errorf("from the front on: %08x; want %08x", ahead, want)
	}
	var behind piece
	for _, p := range slices.Backward(pieces) {
		behind = piece{Join(p.sum, behind.sum, behind.size), p.size + behind.size}
	}
	if behind.sum != want || behind.size != len(all) {
		t.Errorf("from the end on: %08x of %d; want %08x of %d", behind.sum, behind.size, want, len(all))
	}
}

// The polynomial's powers come round again behind 2^31 - 1 of them: so many bytes 0 change nothing, however often they are laid.
func TestJoinOfEndlessPieces(t *testing.T) {
	const round = 1<<31 - 1
	r := rand.New(rand.NewSource(5))
	for range 50 {
		b := chance(r, 1+r.Intn(100))
		a, s := r.Uint32(), Sum(b)
		want := Join(a, s, len(b))
		for _, times := range []int{1, 2, 3, 1 << 20, (math.MaxInt - len(b)) / round} {
			if n := times*round + len(b); Join(a, s, n) != want {
				t.Errorf("%d bytes: %08x; want %08x", n, Join(a, s, n), want)
			}
		}
	}
}
