package code

import (
	"encoding/binary"
	"math"
	"math/big"
	"math/rand"
	"slices"
	"strings"
	"testing"

	"reef/api"
)

// readCase is what Read is asked and what it must answer.
type readCase struct {
	b     string // in hexadecimal digits
	kinds []int
	want  []api.Field
	n     int
	err   api.Errno
}

// tens is a byte, nine times, and what stands behind.
func tens(b, behind string) string { return strings.Repeat(b, 9) + behind }

func readCases() []readCase {
	n, i, w, s, f := []int{api.FdNum}, []int{api.FdInt}, []int{api.FdWord}, []int{api.FdText}, []int{api.FdFlag}
	return []readCase{
		{"", nil, nil, 0, api.OK},
		{"ff", nil, nil, 0, api.OK},

		{"", n, nil, 0, api.ErrShort},
		{"00", n, list(num(0)), 1, api.OK},
		{"00 00", n, list(num(0)), 1, api.OK},
		{"7f 80", n, list(num(127)), 1, api.OK},
		{"80", n, nil, 0, api.ErrShort},
		{"ac 02", n, list(num(300)), 2, api.OK},
		{"80 00", n, nil, 0, api.ErrForm},
		{"ff 00", n, nil, 0, api.ErrForm},
		{"80 80 00", n, nil, 0, api.ErrForm},
		{"80 80 80", n, nil, 0, api.ErrShort},
		{"80 00 01", n, nil, 0, api.ErrForm},
		{"ff ff ff ff ff ff ff ff 7f", n, list(num(math.MaxInt64)), 9, api.OK},
		{"80 80 80 80 80 80 80 80 01", n, list(num(1 << 56)), 9, api.OK},
		{"80 80 80 80 80 80 80 80 00", n, nil, 0, api.ErrForm},
		{"80 80 80 80 80 80 80 80", n, nil, 0, api.ErrShort},
		{tens("80", ""), n, nil, 0, api.ErrShort}, // above 2^63 - 1 already, but that is told at the last byte
		{tens("ff", ""), n, nil, 0, api.ErrShort},
		{tens("80", "00"), n, nil, 0, api.ErrForm},
		{tens("80", "01"), n, nil, 0, api.ErrForm}, // 2^63
		{tens("ff", "01"), n, nil, 0, api.ErrForm}, // 2^64 - 1
		{tens("80", "02"), n, nil, 0, api.ErrForm},
		{tens("80", "80"), n, nil, 0, api.ErrForm},
		{tens("80", "81"), n, nil, 0, api.ErrForm},
		{tens("ff", "ff"), n, nil, 0, api.ErrForm},
		{tens("80", "80 01"), n, nil, 0, api.ErrForm},

		{"", i, nil, 0, api.ErrShort},
		{"01", i, list(whole(-1)), 1, api.OK},
		{"02", i, list(whole(1)), 1, api.OK},
		{"81 01", i, list(whole(-65)), 2, api.OK},
		{"81 00", i, nil, 0, api.ErrForm},
		{"81", i, nil, 0, api.ErrShort},
		{tens("ff", "01"), i, list(whole(math.MinInt64)), 10, api.OK},
		{"fe" + strings.Repeat("ff", 8) + "01 55", i, list(whole(math.MaxInt64)), 10, api.OK},
		{tens("80", "01"), i, list(whole(1 << 62)), 10, api.OK},
		{tens("80", ""), i, nil, 0, api.ErrShort},
		{tens("ff", "00"), i, nil, 0, api.ErrForm},
		{tens("ff", "02"), i, nil, 0, api.ErrForm}, // 2^65 - 1 and more
		{tens("ff", "03"), i, nil, 0, api.ErrForm},
		{tens("80", "40"), i, nil, 0, api.ErrForm},
		{tens("80", "80"), i, nil, 0, api.ErrForm}, // whatever stands behind
		{tens("80", "81"), i, nil, 0, api.ErrForm},
		{tens("ff", "81 00"), i, nil, 0, api.ErrForm},
		{tens("ff", "ff"), i, nil, 0, api.ErrForm},

		{"", w, nil, 0, api.ErrShort},
		{"02", w, nil, 0, api.ErrShort},
		{"02 01 00", w, nil, 0, api.ErrShort},
		{"02 01 00 00", w, list(word(258)), 4, api.OK},
		{"ff ff ff ff ff", w, list(word(math.MaxUint32)), 4, api.OK},
		{"00 00 00 80", w, list(word(1 << 31)), 4, api.OK},

		{"", s, nil, 0, api.ErrShort},
		{"00", s, list(text("")), 1, api.OK},
		{"02 61", s, nil, 0, api.ErrShort},
		{"02 61 62", s, list(text("ab")), 3, api.OK},
		{"02 61 62 63", s, list(text("ab")), 3, api.OK},
		{"03 00 ff 80", s, list(text("\x00\xff\x80")), 4, api.OK},
		{"80", s, nil, 0, api.ErrShort},
		{"80 00", s, nil, 0, api.ErrForm},
		{"82 00 61 62", s, nil, 0, api.ErrForm},
		{"80 01" + strings.Repeat("00", 127), s, nil, 0, api.ErrShort},
		{"80 01" + strings.Repeat("00", 128), s, list(text(strings.Repeat("\x00", 128))), 130, api.OK},
		{"ff ff ff ff ff ff ff ff 7f", s, nil, 0, api.ErrShort},       // a length of 2^63 - 1
		{"ff ff ff ff ff ff ff ff 7f 61 62", s, nil, 0, api.ErrShort}, //
		{"ff ff ff ff 0f 61", s, nil, 0, api.ErrShort},                // of 2^32 - 1
		{"80 80 80 80 10 61", s, nil, 0, api.ErrShort},                // of 2^32
		{tens("80", ""), s, nil, 0, api.ErrShort},
		{tens("80", "01"), s, nil, 0, api.ErrForm}, // of 2^63
		{tens("80", "01 61"), s, nil, 0, api.ErrForm},
		{tens("ff", "01"), s, nil, 0, api.ErrForm}, // of 2^64 - 1
		{tens("80", "02"), s, nil, 0, api.ErrForm},
		{tens("81", "80"), s, nil, 0, api.ErrForm},

		{"", f, nil, 0, api.ErrShort},
		{"00", f, list(truth(false)), 1, api.OK},
		{"01 02", f, list(truth(true)), 1, api.OK},
		{"02", f, nil, 0, api.ErrForm},
		{"80", f, nil, 0, api.ErrForm},
		{"81 01", f, nil, 0, api.ErrForm},
		{"ff", f, nil, 0, api.ErrForm},

		// The first error counts, field by field.
		{"", []int{9}, nil, 0, api.ErrKind},
		{"80 00", []int{0}, nil, 0, api.ErrKind},
		{"", []int{api.FdNum, 9}, nil, 0, api.ErrShort},
		{"80 00", []int{api.FdNum, 9}, nil, 0, api.ErrForm},
		{"05", []int{api.FdNum, 9}, nil, 0, api.ErrKind},
		{"05", []int{9, api.FdNum}, nil, 0, api.ErrKind},
		{"05", []int{api.FdNum, api.FdFlag, 9}, nil, 0, api.ErrShort},
		{"05 02", []int{api.FdNum, api.FdFlag, 9}, nil, 0, api.ErrForm},
		{"02 80 00", []int{api.FdFlag, api.FdNum}, nil, 0, api.ErrForm},
		{"01 80", []int{api.FdFlag, api.FdNum}, nil, 0, api.ErrShort},
		{"02 61 62 02", []int{api.FdText, api.FdFlag}, nil, 0, api.ErrForm},
		{"ac 02 05 02 01 00 00 02 61 62 01 77", allKinds(), list(num(300), whole(-3), word(258), text("ab"), truth(true)), 11, api.OK},
		{"00 00 00 00", []int{api.FdText, api.FdNum, api.FdInt, api.FdFlag}, list(text(""), num(0), whole(0), truth(false)), 4, api.OK},
	}
}

// P2.3

func TestReadKnown(t *testing.T) {
	for _, c := range readCases() {
		l, n, e := Read(bytesOf(t, c.b), c.kinds)
		if !slices.Equal(l, c.want) || n != c.n || e != c.err {
			t.Errorf("Read(%.60s, %d): %s %d %d; want %s %d %d", c.b, c.kinds, shown(l), n, int(e), shown(c.want), c.n, int(c.err))
		}
	}
}

func TestReadOfKindsThatAreNone(t *testing.T) {
	for _, k := range noKinds() {
		for _, b := range []string{"", "\x00", "\x01", "\x80\x00", "\x80"} {
			if l, n, e := Read([]byte(b), []int{k}); len(l) != 0 || n != 0 || e != api.ErrKind {
				t.Errorf("Read(%x, %d): %s %d %d", b, k, shown(l), n, int(e))
			}
			if l, e := Whole([]byte(b), []int{k}); len(l) != 0 || e != api.ErrKind {
				t.Errorf("Whole(%x, %d): %s %d", b, k, shown(l), int(e))
			}
			if l, e := ReadKey(b, []int{k}); len(l) != 0 || e != api.ErrKind {
				t.Errorf("ReadKey(%x, %d): %s %d", b, k, shown(l), int(e))
			}
		}
	}
}

// packedByWords reads a packed number by the chapter's words, in numbers of any length: it, and how many bytes it has.
func packedByWords(b []byte) (*big.Int, int, api.Errno) {
	n := slices.IndexFunc(b, func(c byte) bool { return c < 128 }) + 1
	if n == 0 {
		// Ten bytes with others to come have more than 64 bits, or more bytes than need be.
		if len(b) >= 10 {
			return nil, 0, api.ErrForm
		}
		return nil, 0, api.ErrShort
	}
	x := new(big.Int)
	for i, c := range b[:n] {
		x.Or(x, new(big.Int).Lsh(big.NewInt(int64(c&127)), uint(7*i)))
	}
	if x.BitLen() > 64 || n > max(1, (x.BitLen()+6)/7) {
		return nil, 0, api.ErrForm
	}
	return x, n, api.OK
}

// readByWords reads a field by the chapter's words.
func readByWords(b []byte, kind int) (api.Field, int, api.Errno) {
	switch kind {
	case api.FdWord:
		if len(b) < 4 {
			return api.Field{}, 0, api.ErrShort
		}
		return word(int64(binary.LittleEndian.Uint32(b))), 4, api.OK
	case api.FdFlag:
		if len(b) == 0 {
			return api.Field{}, 0, api.ErrShort
		}
		if b[0] != 0 && b[0] != 1 {
			return api.Field{}, 0, api.ErrForm
		}
		return truth(b[0] == 1), 1, api.OK
	}
	x, n, e := packedByWords(b)
	if e != api.OK {
		return api.Field{}, 0, e
	}
	if kind == api.FdInt {
		half := new(big.Int).Rsh(x, 1)
		if x.Bit(0) == 1 {
			half.Not(half) // -(2y + 1 + 1) / 2 of an odd number 2y + 1
		}
		return whole(half.Int64()), n, api.OK
	}
	if !x.IsInt64() {
		return api.Field{}, 0, api.ErrForm
	}
	if kind == api.FdNum {
		return num(x.Int64()), n, api.OK
	}
	if x.Cmp(big.NewInt(int64(len(b)-n))) > 0 {
		return api.Field{}, 0, api.ErrShort
	}
	end := n + int(x.Int64())
	return text(string(b[n:end])), end, api.OK
}

// sameAsByWords holds Read of one field against the chapter's words.
func sameAsByWords(t *testing.T, b []byte, kind int) {
	t.Helper()
	f, n, e := readByWords(b, kind)
	var want []api.Field
	if e == api.OK {
		want = list(f)
	}
	l, m, d := Read(b, []int{kind})
	if !slices.Equal(l, want) || m != n || d != e {
		t.Fatalf("Read(%x, %d): %s %d %d; want %s %d %d", b, kind, shown(l), m, int(d), shown(want), n, int(e))
	}
	if e == api.OK && string(Fields(l)) != string(b[:n]) {
		t.Fatalf("Read(%x, %d) takes %d bytes; Fields of it: %x", b, kind, n, Fields(l))
	}
}

func TestReadOfAllShortBytes(t *testing.T) {
	for _, k := range allKinds() {
		sameAsByWords(t, nil, k)
		for a := range 256 {
			sameAsByWords(t, []byte{byte(a)}, k)
			for b := range 256 {
				sameAsByWords(t, []byte{byte(a), byte(b)}, k)
				for _, c := range []byte{0, 1, 127, 128, 255} {
					sameAsByWords(t, []byte{byte(a), byte(b), c}, k)
				}
			}
		}
	}
}

func TestReadOfAllTenthAndLaterBytes(t *testing.T) {
	for _, k := range []int{api.FdNum, api.FdInt, api.FdText} {
		for n := range 13 {
			for _, c := range []byte{128, 129, 255} {
				for last := range 256 {
					b := append(slices.Repeat([]byte{c}, n), byte(last))
					sameAsByWords(t, b, k)
					sameAsByWords(t, append(b, 0), k)
					sameAsByWords(t, append(b, 1), k)
				}
			}
		}
	}
}

func TestReadOfChanceBytes(t *testing.T) {
	r := rand.New(rand.NewSource(2))
	for range 50000 {
		b := make([]byte, r.Intn(16))
		for i := range b {
			b[i] = byte(r.Intn(256))
			if r.Intn(3) > 0 {
				b[i] = []byte{0, 1, 2, 127, 128, 129, 254, 255}[r.Intn(8)]
			}
		}
		for _, k := range allKinds() {
			sameAsByWords(t, b, k)
		}
	}
}

func TestReadGoesFieldByField(t *testing.T) {
	r := rand.New(rand.NewSource(3))
	for range 20000 {
		l := chanceRow(r)
		b := Fields(l)
		if len(b) > 0 && r.Intn(2) == 0 {
			b[r.Intn(len(b))] ^= 1 << r.Intn(8)
		}
		kinds := kindsOf(l)
		if r.Intn(4) == 0 {
			kinds = append(kinds, r.Intn(8)-1)
		}
		var want []api.Field
		at, err := 0, api.OK
		for _, k := range kinds {
			if k < api.FdNum || k > api.FdFlag {
				err = api.ErrKind
				break
			}
			f, n, e := readByWords(b[at:], k)
			if e != api.OK {
				err = e
				break
			}
			want, at = append(want, f), at+n
		}
		if err != api.OK {
			want, at = nil, 0
		}
		if got, n, e := Read(b, kinds); !slices.Equal(got, want) || n != at || e != err {
			t.Fatalf("Read(%x, %d): %s %d %d; want %s %d %d", b, kinds, shown(got), n, int(e), shown(want), at, int(err))
		}
	}
}

func TestReadLeavesItsBytesAndKeepsNone(t *testing.T) {
	b := append(make([]byte, 0, 8), 2, 'a', 'b', 1)
	kinds := []int{api.FdText, api.FdFlag}
	l, n, e := Read(b, kinds)
	m, d := Whole(b, kinds)
	if e != api.OK || d != api.OK || n != 4 || !slices.Equal(b[:8], []byte{2, 'a', 'b', 1, 0, 0, 0, 0}) || !slices.Equal(kinds, []int{api.FdText, api.FdFlag}) {
		t.Fatalf("%d %d %d; the bytes are %x, the kinds %d", int(e), int(d), n, b[:8], kinds)
	}
	clear(b)
	clear(kinds)
	if want := list(text("ab"), truth(true)); !slices.Equal(l, want) || !slices.Equal(m, want) {
		t.Errorf("what was read has changed with the bytes: %s, %s", shown(l), shown(m))
	}
	l[0].Text = "other"
	if m[0].Text != "ab" {
		t.Error("two answers share memory")
	}
}

func TestReadLeavesTheSpareRoom(t *testing.T) {
	b := []byte{2, 'a', 'b', 1}
	if _, _, e := Read(b[:2], []int{api.FdText}); e != api.ErrShort {
		t.Errorf("what lies in the spare room was read: %d", int(e))
	}
	if _, _, e := Read(b[:0], []int{api.FdNum}); e != api.ErrShort {
		t.Errorf("what lies in the spare room was read: %d", int(e))
	}
	kinds := []int{api.FdNum, 9}
	if l, n, e := Read(b, kinds[:1]); e != api.OK || n != 1 || len(l) != 1 {
		t.Errorf("a kind of the spare room was asked for: %s %d %d", shown(l), n, int(e))
	}
}

// P2.4

func TestWholeKnown(t *testing.T) {
	for _, c := range readCases() {
		b := bytesOf(t, c.b)
		want, err := c.want, c.err
		if err == api.OK && c.n < len(b) {
			want, err = nil, api.ErrForm
		}
		if l, e := Whole(b, c.kinds); !slices.Equal(l, want) || e != err {
			t.Errorf("Whole(%.60s, %d): %s %d; want %s %d", c.b, c.kinds, shown(l), int(e), shown(want), int(err))
		}
	}
}

func TestWholeOfBytesBehind(t *testing.T) {
	r := rand.New(rand.NewSource(4))
	for range 2000 {
		l := chanceRow(r)
		b := append(Fields(l), byte(r.Intn(256)))
		if m, e := Whole(b, kindsOf(l)); len(m) != 0 || e != api.ErrForm {
			t.Fatalf("Whole(%x, %d): %s %d", b, kindsOf(l), shown(m), int(e))
		}
	}
}

// P2.9 and P2.12, of Fields

func TestThereAndBack(t *testing.T) {
	rows := [][]api.Field{nil, edges()}
	for _, f := range edges() {
		rows = append(rows, list(f), list(f, f), list(f, truth(true)))
	}
	r := rand.New(rand.NewSource(5))
	for range 5000 {
		rows = append(rows, chanceRow(r))
	}
	for _, l := range rows {
		b := Fields(l)
		m, e := Whole(b, kindsOf(l))
		if e != api.OK || !slices.Equal(m, l) {
			t.Fatalf("Whole(%.60x): %s %d; it was %s", b, shown(m), int(e), shown(l))
		}
		m, n, e := Read(append(b, 0x80, 'x'), kindsOf(l))
		if e != api.OK || !slices.Equal(m, l) || n != len(b) || string(Fields(m)) != string(b) {
			t.Fatalf("Read(%.60x ..): %s %d %d; it was %s", b, shown(m), n, int(e), shown(l))
		}
	}
}

func TestBeginningsAreShort(t *testing.T) {
	rows := [][]api.Field{list(num(300), whole(-3), word(258), text("ab"), truth(true))}
	for _, f := range edges() {
		if Size(f) < 1000 {
			rows = append(rows, list(f), list(f, truth(true)), list(text("ab"), f))
		}
	}
	r := rand.New(rand.NewSource(6))
	for range 5000 {
		rows = append(rows, chanceRow(r))
	}
	for _, l := range rows {
		b := Fields(l)
		for n := range len(b) {
			if m, k, e := Read(b[:n], kindsOf(l)); len(m) != 0 || k != 0 || e != api.ErrShort {
				t.Fatalf("Read of %d bytes of %x, %d: %s %d %d", n, b, kindsOf(l), shown(m), k, int(e))
			}
			if m, e := Whole(b[:n:n], kindsOf(l)); len(m) != 0 || e != api.ErrShort {
				t.Fatalf("Whole of %d bytes of %x, %d: %s %d", n, b, kindsOf(l), shown(m), int(e))
			}
		}
	}
}
