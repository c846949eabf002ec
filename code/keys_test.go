package code

import (
	"math"
	"math/big"
	"math/rand"
	"slices"
	"strings"
	"testing"

	"reef/api"
)

// P2.5

func TestKeyKnown(t *testing.T) {
	for _, c := range []struct {
		l    []api.Field
		want string
	}{
		{nil, ""},
		{list(), ""},
		{list(num(0)), "00 00 00 00 00 00 00 00"},
		{list(num(1)), "00 00 00 00 00 00 00 01"},
		{list(num(0x0123456789abcdef)), "01 23 45 67 89 ab cd ef"},
		{list(num(math.MaxInt64)), "7f ff ff ff ff ff ff ff"},
		{list(whole(0)), "80 00 00 00 00 00 00 00"},
		{list(whole(1)), "80 00 00 00 00 00 00 01"},
		{list(whole(-1)), "7f ff ff ff ff ff ff ff"},
		{list(whole(math.MaxInt64)), "ff ff ff ff ff ff ff ff"},
		{list(whole(math.MinInt64)), "00 00 00 00 00 00 00 00"},
		{list(word(0)), "00 00 00 00 00 00 00 00"},
		{list(word(0x89abcdef)), "00 00 00 00 89 ab cd ef"},
		{list(word(math.MaxUint32)), "00 00 00 00 ff ff ff ff"},
		{list(text("")), "00 01"},
		{list(text("ab")), "61 62 00 01"},
		{list(text("\x00")), "00 ff 00 01"},
		{list(text("\x00\x00")), "00 ff 00 ff 00 01"},
		{list(text("\x01\xff")), "01 ff 00 01"},
		{list(text("\xff\x00")), "ff 00 ff 00 01"},
		{list(text("\x00\x01")), "00 ff 01 00 01"},
		{list(truth(false)), "00"},
		{list(truth(true)), "01"},
		{list(num(1), text("a\x00")), "00 00 00 00 00 00 00 01 61 00 ff 00 01"},
		{list(text(""), truth(true), text("b")), "00 01 01 62 00 01"},
	} {
		if got, want := Key(laid(c.l)), string(bytesOf(t, c.want)); got != want {
			t.Errorf("Key(%s): %x; want %x", shown(c.l), got, want)
		}
	}
}

func TestKeysAreOneBehindTheOther(t *testing.T) {
	r := rand.New(rand.NewSource(10))
	for range 2000 {
		l := chanceRow(r)
		want := ""
		for _, f := range l {
			want += Key(list(f))
		}
		if got := Key(l); got != want {
			t.Fatalf("Key(%s): %x; one by one %x", shown(l), got, want)
		}
	}
}

func TestKeyOfUnfitOnesIsNone(t *testing.T) {
	for _, f := range unfit() {
		for at := range 4 {
			l := slices.Insert(list(num(300), text("ab"), truth(true)), at, f)
			if got := Key(l); got != "" {
				t.Errorf("Key(%s): %x", shown(l), got)
			}
		}
	}
}

// P2.6

func TestReadKeyKnown(t *testing.T) {
	n, i, w, s, f := []int{api.FdNum}, []int{api.FdInt}, []int{api.FdWord}, []int{api.FdText}, []int{api.FdFlag}
	for _, c := range []struct {
		b     string
		kinds []int
		want  []api.Field
		err   api.Errno
	}{
		{"", nil, nil, api.OK},
		{"00", nil, nil, api.ErrForm},

		{"", n, nil, api.ErrShort},
		{"00 00 00 00 00 00 01 00", n, list(num(256)), api.OK},
		{"7f ff ff ff ff ff ff ff", n, list(num(math.MaxInt64)), api.OK},
		{"80 00 00 00 00 00 00 00", n, nil, api.ErrForm},
		{"ff ff ff ff ff ff ff ff", n, nil, api.ErrForm},
		{"80 00 00 00 00 00 00", n, nil, api.ErrShort}, // too few bytes, whatever they are
		{"ff", n, nil, api.ErrShort},
		{"00 00 00 00 00 00 01 00 00", n, nil, api.ErrForm},

		{"", i, nil, api.ErrShort},
		{"80 00 00 00 00 00 00", i, nil, api.ErrShort},
		{"80 00 00 00 00 00 00 00", i, list(whole(0)), api.OK},
		{"00 00 00 00 00 00 00 00", i, list(whole(math.MinInt64)), api.OK},
		{"ff ff ff ff ff ff ff ff", i, list(whole(math.MaxInt64)), api.OK},
		{"7f ff ff ff ff ff ff fe", i, list(whole(-2)), api.OK},

		{"", w, nil, api.ErrShort},
		{"00 00 00 00", w, nil, api.ErrShort},
		{"01 00 00 00 00 00 00", w, nil, api.ErrShort},
		{"00 00 00 00 89 ab cd ef", w, list(word(0x89abcdef)), api.OK},
		{"00 00 00 00 ff ff ff ff", w, list(word(math.MaxUint32)), api.OK},
		{"00 00 00 01 00 00 00 00", w, nil, api.ErrForm},
		{"80 00 00 00 00 00 00 00", w, nil, api.ErrForm},
		{"ff ff ff ff ff ff ff ff", w, nil, api.ErrForm},

		{"", s, nil, api.ErrShort},
		{"61", s, nil, api.ErrShort},
		{"61 00", s, nil, api.ErrShort},
		{"61 00 ff", s, nil, api.ErrShort},
		{"00 01", s, list(text("")), api.OK},
		{"61 62 00 01", s, list(text("ab")), api.OK},
		{"61 00 ff 00 01", s, list(text("a\x00")), api.OK},
		{"01 ff 00 01", s, list(text("\x01\xff")), api.OK},
		{"61 00 00", s, nil, api.ErrForm},
		{"61 00 02 00 01", s, nil, api.ErrForm},
		{"61 00 fe", s, nil, api.ErrForm},
		{"61 00 80 62", s, nil, api.ErrForm}, // at the first such one, though no end comes
		{"00 00 01", s, nil, api.ErrForm},
		{"61 00 01 62", s, nil, api.ErrForm},
		{"61 00 01 00", s, nil, api.ErrForm},

		{"", f, nil, api.ErrShort},
		{"00", f, list(truth(false)), api.OK},
		{"01", f, list(truth(true)), api.OK},
		{"02", f, nil, api.ErrForm},
		{"ff", f, nil, api.ErrForm},
		{"01 00", f, nil, api.ErrForm},

		// The first error counts, field by field, and that bytes stand behind the last.
		{"", []int{api.FdNum, 9}, nil, api.ErrShort},
		{"", []int{9, api.FdNum}, nil, api.ErrKind},
		{"80 00 00 00 00 00 00 00", []int{api.FdNum, 9}, nil, api.ErrForm},
		{"80 00 00 00 00 00 00 00", []int{api.FdInt, 9}, nil, api.ErrKind},
		{"00 01 02", []int{api.FdText, api.FdFlag}, nil, api.ErrForm},
		{"00 01", []int{api.FdText, api.FdFlag}, nil, api.ErrShort},
		{"00 01 01 62 00 01", []int{api.FdText, api.FdFlag, api.FdText}, list(text(""), truth(true), text("b")), api.OK},
		{"00 01 01 62 00 01 00", []int{api.FdText, api.FdFlag, api.FdText, 9}, nil, api.ErrKind},
		{"00 00 00 00 00 00 00 01 61 00 ff 00 01", []int{api.FdNum, api.FdText}, list(num(1), text("a\x00")), api.OK},
	} {
		if l, e := ReadKey(string(bytesOf(t, c.b)), c.kinds); !slices.Equal(l, c.want) || e != c.err {
			t.Errorf("ReadKey(%s, %d): %s %d; want %s %d", c.b, c.kinds, shown(l), int(e), shown(c.want), int(c.err))
		}
	}
}

// keyTextByWords reads a text of a key, from the front of s, by the chapter's words: it, and how many bytes it has.
func keyTextByWords(s string) (api.Field, int, api.Errno) {
	at := 0
	for {
		i := strings.IndexByte(s[at:], 0)
		if i < 0 || at+i+1 == len(s) {
			return api.Field{}, 0, api.ErrShort
		}
		at += i + 2
		switch s[at-1] {
		case 1:
			return text(strings.ReplaceAll(s[:at-2], "\x00\xff", "\x00")), at, api.OK
		case 255:
		default:
			return api.Field{}, 0, api.ErrForm
		}
	}
}

// keyPartByWords reads a part of a key, from the front of s, by the chapter's words.
func keyPartByWords(s string, kind int) (api.Field, int, api.Errno) {
	switch kind {
	case api.FdText:
		return keyTextByWords(s)
	case api.FdFlag:
		return readByWords([]byte(s), kind)
	case api.FdNum, api.FdInt, api.FdWord:
	default:
		return api.Field{}, 0, api.ErrKind
	}
	if len(s) < 8 {
		return api.Field{}, 0, api.ErrShort
	}
	x := new(big.Int).SetBytes([]byte(s[:8]))
	f := api.Field{Kind: kind}
	if kind == api.FdInt {
		f.Num = x.Sub(x, new(big.Int).Lsh(big.NewInt(1), 63)).Int64()
		return f, 8, api.OK
	}
	if x.BitLen() > 63 || kind == api.FdWord && x.BitLen() > 32 {
		return api.Field{}, 0, api.ErrForm
	}
	f.Num = x.Int64()
	return f, 8, api.OK
}

// keyByWords reads a key by the chapter's words.
func keyByWords(s string, kinds []int) ([]api.Field, api.Errno) {
	var l []api.Field
	for _, k := range kinds {
		f, n, e := keyPartByWords(s, k)
		if e != api.OK {
			return nil, e
		}
		l, s = append(l, f), s[n:]
	}
	if s != "" {
		return nil, api.ErrForm
	}
	return l, api.OK
}

func TestReadKeyOfChanceTexts(t *testing.T) {
	r := rand.New(rand.NewSource(11))
	for range 50000 {
		b := make([]byte, r.Intn(10))
		for i := range b {
			b[i] = []byte{0, 0, 1, 1, 255, 255, 254, 'a'}[r.Intn(8)]
		}
		sameKeyAsByWords(t, string(b), []int{api.FdText})
		sameKeyAsByWords(t, string(b), []int{api.FdText, api.FdFlag})
	}
}

// sameKeyAsByWords holds ReadKey against the chapter's words.
func sameKeyAsByWords(t *testing.T, s string, kinds []int) {
	t.Helper()
	want, err := keyByWords(s, kinds)
	l, e := ReadKey(s, kinds)
	if !slices.Equal(l, want) || e != err {
		t.Fatalf("ReadKey(%x, %d): %s %d; want %s %d", s, kinds, shown(l), int(e), shown(want), int(err))
	}
	if e == api.OK && Key(l) != s {
		t.Fatalf("ReadKey(%x, %d) is taken; Key of it: %x", s, kinds, Key(l))
	}
}

func TestReadKeyGoesFieldByField(t *testing.T) {
	r := rand.New(rand.NewSource(13))
	for range 50000 {
		l := chanceRow(r)
		b := []byte(Key(l))
		if len(b) > 0 && r.Intn(2) == 0 {
			b[r.Intn(len(b))] ^= 1 << r.Intn(8)
		}
		b = b[:len(b)-r.Intn(min(len(b), 9)+1)*r.Intn(2)]
		kinds := kindsOf(l)
		if r.Intn(4) == 0 {
			kinds = append(kinds, r.Intn(8)-1)
		}
		sameKeyAsByWords(t, string(b), kinds)
	}
}

func TestReadKeyLeavesItsKinds(t *testing.T) {
	kinds := []int{api.FdText, api.FdFlag, 9}
	l, e := ReadKey("a\x00\x01\x01", kinds[:2])
	m, d := ReadKey("a\x00\x01\x01", kinds[:2])
	if e != api.OK || d != api.OK || !slices.Equal(kinds, []int{api.FdText, api.FdFlag, 9}) {
		t.Fatalf("%d %d; the kinds are %d", int(e), int(d), kinds)
	}
	l[0].Text = "other"
	if m[0].Text != "a" {
		t.Error("two answers share memory")
	}
}

// P2.9, of Key

func TestKeysThereAndBack(t *testing.T) {
	rows := [][]api.Field{nil, edges()}
	for _, f := range edges() {
		rows = append(rows, list(f), list(f, f), list(f, truth(true)), list(text("\x00"), f))
	}
	r := rand.New(rand.NewSource(12))
	for range 5000 {
		rows = append(rows, chanceRow(r))
	}
	for _, l := range rows {
		s := Key(l)
		if m, e := ReadKey(s, kindsOf(l)); e != api.OK || !slices.Equal(m, l) {
			t.Fatalf("ReadKey(%.60x): %s %d; it was %s", s, shown(m), int(e), shown(l))
		}
		if m, e := ReadKey(s+"\x00", kindsOf(l)); e != api.ErrForm || len(m) != 0 {
			t.Fatalf("ReadKey(%.60x 00): %s %d", s, shown(m), int(e))
		}
		if len(s) < 300 {
			for n := range len(s) {
				if m, e := ReadKey(s[:n], kindsOf(l)); e != api.ErrShort || len(m) != 0 {
					t.Fatalf("ReadKey of %d bytes of %x: %s %d", n, s, shown(m), int(e))
				}
			}
		}
	}
}
