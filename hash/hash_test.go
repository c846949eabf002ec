package hash

import (
	"encoding/binary"
	"hash/fnv"
	"math"
	"math/big"
	"math/rand"
	"slices"
	"strings"
	"testing"
)

// The sums below were worked out apart from this package, by the chapter's words.

// wordBytes is the bytes of words, of each the lowest first.
func wordBytes(l []uint32) string {
	var b []byte
	for _, w := range l {
		b = binary.LittleEndian.AppendUint32(b, w)
	}
	return string(b)
}

// longBytes is the bytes of numbers, of each the lowest first.
func longBytes(l []uint64) string {
	var b []byte
	for _, w := range l {
		b = binary.LittleEndian.AppendUint64(b, w)
	}
	return string(b)
}

// mix32 mixes by the library's sum, which begins and multiplies as the chapter says.
func mix32(s string) uint32 {
	f := fnv.New32a()
	f.Write([]byte(s))
	h := f.Sum32()
	h ^= h >> 16
	h *= 0x85ebca6b
	h ^= h >> 13
	h *= 0xc2b2ae35
	h ^= h >> 16
	return h
}

// mix64 mixes by the library's sum.
func mix64(s string) uint64 {
	f := fnv.New64a()
	f.Write([]byte(s))
	h := f.Sum64()
	return h ^ h>>32
}

// logByWords is the chapter's logarithm in numbers of any length.
func logByWords(x uint32) uint32 {
	if x == 0 {
		return 0
	}
	n := 0
	for x>>(n+1) != 0 {
		n++
	}
	y := new(big.Int).Lsh(big.NewInt(int64(x)), uint(31-n))
	top := new(big.Int).Lsh(big.NewInt(1), 32)
	sum := uint32(n) * 65536
	for k := 15; k >= 0; k-- {
		y.Rsh(y.Mul(y, y), 31)
		if y.Cmp(top) >= 0 {
			sum += 1 << k
			y.Rsh(y, 1)
		}
	}
	return sum
}

// manyTexts is texts of all lengths up to 40, with bytes of all kinds.
func manyTexts() []string {
	r := rand.New(rand.NewSource(1))
	l := []string{"", "\x00", "\x00\x00", "\xff", "\x7f\x80", "a", "A", "image.1", "żółw"}
	for n := range 40 {
		b := make([]byte, n)
		r.Read(b)
		l = append(l, string(b))
	}
	return append(l, strings.Repeat("reef", 5000))
}

// P1.1

func TestWordsKnown(t *testing.T) {
	for _, c := range []struct {
		l    []uint32
		want uint32
	}{
		{nil, 0xab3e7c0b},
		{[]uint32{}, 0xab3e7c0b},
		{[]uint32{0}, 0x4997eb7b},
		{[]uint32{1}, 0x62376cf6},
		{[]uint32{1, 2}, 0x2049ec75},
		{[]uint32{2, 1}, 0x749586d3},
		{[]uint32{math.MaxUint32}, 0x26c2a362},
		{[]uint32{0x64636261}, 0xe89ff54e},
		{[]uint32{0x80000000, 0x01020304, 0xdeadbeef}, 0x3dc5abfa},
	} {
		if got := Words(c.l...); got != c.want {
			t.Errorf("Words(%#x): %#x; want %#x", c.l, got, c.want)
		}
	}
}

func TestWordsOfManyLengths(t *testing.T) {
	r := rand.New(rand.NewSource(2))
	for n := range 200 {
		l := make([]uint32, n)
		for i := range l {
			l[i] = r.Uint32()
		}
		if got, want := Words(l...), mix32(wordBytes(l)); got != want {
			t.Fatalf("Words of %d words: %#x; want %#x", n, got, want)
		}
	}
}

func TestWordsOfNoneIsNoBytes(t *testing.T) {
	if Words() != Text("") {
		t.Errorf("Words(): %#x; Text of nothing: %#x", Words(), Text(""))
	}
	if Words(0) == Words() || Words(0, 0) == Words(0) {
		t.Error("a word that is 0 plays no part")
	}
}

func TestWordsLeavesItsList(t *testing.T) {
	l := make([]uint32, 3, 8)
	copy(l[:8], []uint32{1, 2, 3, 4, 5, 6, 7, 8})
	got := Words(l...)
	if got != Words(1, 2, 3) {
		t.Error("what lies in the spare room plays a part")
	}
	if !slices.Equal(l[:8], []uint32{1, 2, 3, 4, 5, 6, 7, 8}) {
		t.Errorf("the list was changed: %d", l[:8])
	}
}

// P1.2

func TestTextKnown(t *testing.T) {
	for s, want := range map[string]uint32{
		"": 0xab3e7c0b, "a": 0x1a80b1b3, "abcd": 0xe89ff54e, "\x00": 0x0578ab1b,
		"\xff\x80": 0x942a4bd6, "reef": 0x320fb58b, "\x00\x00\x00\x00": 0x4997eb7b,
	} {
		if got := Text(s); got != want {
			t.Errorf("Text(%q): %#x; want %#x", s, got, want)
		}
	}
}

func TestTextOfManyLengths(t *testing.T) {
	for _, s := range manyTexts() {
		if got, want := Text(s), mix32(s); got != want {
			t.Errorf("Text(%q): %#x; want %#x", s, got, want)
		}
	}
}

// P1.3

func TestLogKnown(t *testing.T) {
	for x, want := range map[uint32]uint32{
		0: 0, 1: 0, 2: 65536, 3: 103872, 4: 131072, 5: 152169, 6: 169408, 7: 183982, 9: 207744, 10: 217705,
		759250125: 1933312, 1518500250: 1998848, 3037000499: 2064383, 3037000500: 2064384, // the square of all but the third overflows by nothing
		100: 435411, 1000: 653117, 65535: 1048574, 65536: 1048576, 65537: 1048577, 1000000: 1306235,
		1<<31 - 1: 2031615, 1 << 31: 2031616, 1<<31 + 1: 2031616, 3 << 30: 2069952,
		math.MaxUint32 - 1: 2097151, math.MaxUint32: 2097151,
	} {
		if got := Log(x); got != want {
			t.Errorf("Log(%d): %d; want %d", x, got, want)
		}
	}
}

func TestLogByTheChaptersWords(t *testing.T) {
	r := rand.New(rand.NewSource(3))
	for i := range 20000 {
		x := uint32(i)
		if i >= 5000 {
			x = r.Uint32() >> (i % 32)
		}
		if got, want := Log(x), logByWords(x); got != want {
			t.Fatalf("Log(%d): %d; want %d", x, got, want)
		}
	}
}

func TestLogIsNearTheTrueOne(t *testing.T) {
	r := rand.New(rand.NewSource(4))
	for i := range 100000 {
		x := r.Uint32()>>(i%32) | 1
		short := math.Log2(float64(x))*65536 - float64(Log(x))
		if short < -0.001 || short > 1.001 {
			t.Fatalf("Log(%d) is short of the true logarithm by %f parts", x, short)
		}
	}
}

// P1.4

func TestDigestKnown(t *testing.T) {
	for s, want := range map[string]uint64{
		"": 0xcbf29ce44fd0bfc1, "a": 0xaf63dc4c296230c0, "abcd": 0xfc179f831210bb5e, "\x00": 0xaf63bd4c29620a93,
		"\xff\x80": 0xa9a2607bc6cc36d, "reef": 0x4cf3611ff31b1934, "\x00\x00\x00\x00": 0x4d25767fd0eb658a,
	} {
		if got := Digest(s); got != want {
			t.Errorf("Digest(%q): %#x; want %#x", s, got, want)
		}
	}
}

func TestDigestOfManyLengths(t *testing.T) {
	for _, s := range manyTexts() {
		if got, want := Digest(s), mix64(s); got != want {
			t.Errorf("Digest(%q): %#x; want %#x", s, got, want)
		}
	}
}

// P1.5

func TestJoinKnown(t *testing.T) {
	for _, c := range []struct {
		l    []uint64
		want uint64
	}{
		{nil, 0xcbf29ce44fd0bfc1},
		{[]uint64{}, 0xcbf29ce44fd0bfc1},
		{[]uint64{0}, 0xa8c7f83280ddc1f7},
		{[]uint64{1}, 0x89cd312994e7de8d},
		{[]uint64{1, 2}, 0x7717980314df7865},
		{[]uint64{2, 1}, 0x72184407b1bce86},
		{[]uint64{math.MaxUint64}, 0x8cf51a8b705692b6},
		{[]uint64{0x0102030405060708, 0xdeadbeefcafef00d}, 0x85bab4b9348f09e7},
	} {
		if got := Join(c.l); got != c.want {
			t.Errorf("Join(%#x): %#x; want %#x", c.l, got, c.want)
		}
	}
}

func TestJoinOfManyLengths(t *testing.T) {
	r := rand.New(rand.NewSource(5))
	for n := range 200 {
		l := make([]uint64, n)
		for i := range l {
			l[i] = r.Uint64()
		}
		if got, want := Join(l), mix64(longBytes(l)); got != want {
			t.Fatalf("Join of %d numbers: %#x; want %#x", n, got, want)
		}
		if got, want := Join(l), Digest(longBytes(l)); got != want {
			t.Fatalf("Join of %d numbers: %#x; Digest of their bytes: %#x", n, got, want)
		}
	}
}

func TestJoinLeavesItsList(t *testing.T) {
	l := make([]uint64, 2, 4)
	copy(l[:4], []uint64{1, 2, 3, 4})
	if Join(l) != Join([]uint64{1, 2}) {
		t.Error("what lies in the spare room plays a part")
	}
	if !slices.Equal(l[:4], []uint64{1, 2, 3, 4}) {
		t.Errorf("the list was changed: %d", l[:4])
	}
}

// P1.6

func TestLogNeverFalls(t *testing.T) {
	rises := func(a, b uint32) {
		if Log(a) > Log(b) {
			t.Fatalf("Log(%d) is %d, Log(%d) is %d", a, Log(a), b, Log(b))
		}
	}
	for x := range uint32(1 << 20) {
		rises(x, x+1)
	}
	for k := range 32 {
		for d := range uint32(1000) {
			top := uint32(1) << k
			if d < top {
				rises(top-d-1, top-d)
				rises(top+d, top+d+1)
			}
		}
	}
	for d := range uint32(1000) {
		rises(math.MaxUint32-d-1, math.MaxUint32-d)
	}
	r := rand.New(rand.NewSource(6))
	for range 100000 {
		a, b := r.Uint32(), r.Uint32()
		rises(min(a, b), max(a, b))
	}
}

func TestLogOfPowersOfTwo(t *testing.T) {
	for k := range uint32(32) {
		if got := Log(1 << k); got != k*65536 {
			t.Errorf("Log of 2^%d: %d; want %d", k, got, k*65536)
		}
	}
}

func TestLogOfTwiceAsMuch(t *testing.T) {
	twice := func(x uint32) {
		if Log(2*x) != Log(x)+65536 {
			t.Fatalf("Log(%d) is %d, Log(%d) is %d", x, Log(x), 2*x, Log(2*x))
		}
	}
	for x := range uint32(1 << 16) {
		twice(x + 1)
	}
	r := rand.New(rand.NewSource(7))
	for range 100000 {
		twice(r.Uint32()>>1 | 1)
	}
	twice(1<<30 - 1)
	twice(1 << 30)
	twice(1<<31 - 1)
}

// P1.7

func TestWordsHangOnTheirListAlone(t *testing.T) {
	want := Words(7, 8, 9)
	Words()
	Words(9, 8, 7)
	Text("between")
	Digest("between")
	Join([]uint64{7, 8, 9})
	Log(7)
	done := make(chan uint32)
	for k := range uint32(8) {
		go func() {
			Words(k)
			done <- Words(7, 8, 9)
		}()
	}
	for range 8 {
		if got := <-done; got != want {
			t.Errorf("Words(7, 8, 9): %#x, and %#x later", want, got)
		}
	}
	if got := Words([]uint32{7, 8, 9}...); got != want {
		t.Errorf("Words(7, 8, 9): %#x, and %#x of a list", want, got)
	}
}

func TestTextOfFourBytesIsTheirWord(t *testing.T) {
	if Words(0x64636261) != Text("abcd") {
		t.Errorf("Words(0x64636261): %#x; Text(\"abcd\"): %#x", Words(0x64636261), Text("abcd"))
	}
	r := rand.New(rand.NewSource(8))
	for range 10000 {
		w := r.Uint32()
		if s := wordBytes([]uint32{w}); Text(s) != Words(w) {
			t.Fatalf("Words(%#x): %#x; Text(%q): %#x", w, Words(w), s, Text(s))
		}
	}
}
