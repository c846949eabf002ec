package code

import (
	"encoding/hex"
	"fmt"
	"math"
	"math/rand"
	"slices"
	"strings"
	"testing"

	"reef/api"
)

func num(x int64) api.Field   { return api.Field{Kind: api.FdNum, Num: x} }
func whole(x int64) api.Field { return api.Field{Kind: api.FdInt, Num: x} }
func word(x int64) api.Field  { return api.Field{Kind: api.FdWord, Num: x} }
func text(s string) api.Field { return api.Field{Kind: api.FdText, Text: s} }
func truth(is bool) api.Field { return api.Field{Kind: api.FdFlag, Is: is} }
func list(l ...api.Field) []api.Field {
	return l
}

// everyByte is a text of all bytes there are.
func everyByte() string {
	var b []byte
	for c := range 256 {
		b = append(b, byte(c))
	}
	return string(b)
}

// edges is fit fields at both ends of each kind, and on both sides of each place where a number takes a byte more.
func edges() []api.Field {
	l := list(
		num(0), num(math.MaxInt64), num(300),
		whole(0), whole(math.MaxInt64), whole(math.MinInt64), whole(-1), whole(1), whole(math.MinInt64+1),
		word(0), word(1), word(258), word(math.MaxUint32), word(math.MaxUint32-1), word(1<<31), word(1<<31-1),
		text(""), text("a"), text("\x00"), text("\x00\x00"), text("\xff"), text("\x00\xff"), text("\xff\x00"), text("\x00\x01"), text("a\x00b"),
		text("żółw"), text(everyByte()), text(strings.Repeat("r", 127)), text(strings.Repeat("e", 128)), text(strings.Repeat("\x00f", 9000)),
		truth(false), truth(true),
	)
	for k := range 63 {
		x := int64(1) << k
		l = append(l, num(x-1), num(x), num(x+1), whole(x-1), whole(x), whole(-x), whole(-x-1), whole(1-x))
		if k < 32 {
			l = append(l, word(x-1), word(x))
		}
	}
	return l
}

// unfit is fields that are none.
func unfit() []api.Field {
	l := list(
		api.Field{}, num(-1), num(math.MinInt64), word(-1), word(1<<32), word(math.MaxInt64), word(math.MinInt64),
		api.Field{Kind: api.FdText, Num: 1}, api.Field{Kind: api.FdText, Num: -1, Text: "a"},
		api.Field{Kind: api.FdFlag, Num: 1}, api.Field{Kind: api.FdFlag, Num: -1, Is: true},
		api.Field{Kind: api.FdFlag, Text: "a"}, api.Field{Kind: api.FdFlag, Text: "\x00", Is: true},
		api.Field{Kind: api.FdText, Is: true}, api.Field{Kind: api.FdText, Text: "a", Is: true},
	)
	for _, k := range []int{api.FdNum, api.FdInt, api.FdWord} {
		l = append(l, api.Field{Kind: k, Text: "a"}, api.Field{Kind: k, Num: 1, Text: "\x00"}, api.Field{Kind: k, Is: true}, api.Field{Kind: k, Num: 1, Is: true})
	}
	for _, k := range noKinds() {
		l = append(l, api.Field{Kind: k}, api.Field{Kind: k, Num: 1}, api.Field{Kind: k, Text: "a"}, api.Field{Kind: k, Is: true})
	}
	return l
}

// noKinds is kinds that are none.
func noKinds() []int {
	return []int{0, -1, api.NumFd, api.NumFd + 1, 256 + api.FdNum, math.MaxInt, math.MinInt, math.MinInt + api.FdFlag}
}

// allKinds is the kinds that there are.
func allKinds() []int {
	return []int{api.FdNum, api.FdInt, api.FdWord, api.FdText, api.FdFlag}
}

func kindsOf(l []api.Field) []int {
	var k []int
	for _, f := range l {
		k = append(k, f.Kind)
	}
	return k
}

// chance is a fit field of a kind; many of them are near one another.
func chance(r *rand.Rand, kind int) api.Field {
	x := int64(r.Uint64() >> r.Intn(64))
	switch kind {
	case api.FdNum:
		return num(x & math.MaxInt64)
	case api.FdInt:
		return whole(x * int64(1-2*r.Intn(2)))
	case api.FdWord:
		return word(x & math.MaxUint32)
	case api.FdText:
		b := make([]byte, r.Intn(5))
		for i := range b {
			b[i] = []byte{0, 1, 2, 'a', 127, 128, 254, 255}[r.Intn(8)]
		}
		return text(string(b))
	}
	return truth(r.Intn(2) == 1)
}

// chanceRow is a row of fit fields.
func chanceRow(r *rand.Rand) []api.Field {
	var l []api.Field
	for range r.Intn(7) {
		l = append(l, chance(r, 1+r.Intn(5)))
	}
	return l
}

// laid is a row with something in its spare room.
func laid(l []api.Field) []api.Field {
	m := append(slices.Clone(l), num(-1), text("spare"))
	return m[:len(l)]
}

// shown is a row as text, but for what is too long to be looked at.
func shown(l []api.Field) string {
	s := fmt.Sprintf("%#v", l)
	if len(s) > 500 {
		s = s[:500] + " .."
	}
	return s
}

// bytesOf is what a text of hexadecimal digits, and of spaces between them, says.
func bytesOf(t *testing.T, s string) []byte {
	t.Helper()
	b, err := hex.DecodeString(strings.ReplaceAll(s, " ", ""))
	if err != nil {
		t.Fatal(err)
	}
	return b
}

// P2.1

func TestFit(t *testing.T) {
	for _, f := range edges() {
		if !Fit(f) {
			t.Errorf("Fit(%s): false", shown(list(f)))
		}
	}
	for _, f := range unfit() {
		if Fit(f) {
			t.Errorf("Fit(%s): true", shown(list(f)))
		}
	}
}

// P2.2

func TestFieldsKnown(t *testing.T) {
	for _, c := range []struct {
		l    []api.Field
		want string
	}{
		{nil, ""},
		{list(), ""},
		{list(num(0)), "00"},
		{list(num(1)), "01"},
		{list(num(127)), "7f"},
		{list(num(128)), "80 01"},
		{list(num(300)), "ac 02"},
		{list(num(16383)), "ff 7f"},
		{list(num(16384)), "80 80 01"},
		{list(num(1<<62 - 1)), "ff ff ff ff ff ff ff ff 3f"},
		{list(num(1 << 56)), "80 80 80 80 80 80 80 80 01"},
		{list(num(math.MaxInt64)), "ff ff ff ff ff ff ff ff 7f"},
		{list(whole(0)), "00"},
		{list(whole(-1)), "01"},
		{list(whole(1)), "02"},
		{list(whole(-2)), "03"},
		{list(whole(63)), "7e"},
		{list(whole(-64)), "7f"},
		{list(whole(64)), "80 01"},
		{list(whole(-65)), "81 01"},
		{list(whole(-3)), "05"},
		{list(whole(math.MaxInt64)), "fe ff ff ff ff ff ff ff ff 01"},
		{list(whole(math.MinInt64)), "ff ff ff ff ff ff ff ff ff 01"},
		{list(whole(1<<62 - 1)), "fe ff ff ff ff ff ff ff 7f"},
		{list(whole(1 << 62)), "80 80 80 80 80 80 80 80 80 01"},
		{list(word(0)), "00 00 00 00"},
		{list(word(258)), "02 01 00 00"},
		{list(word(0x89abcdef)), "ef cd ab 89"},
		{list(word(math.MaxUint32)), "ff ff ff ff"},
		{list(text("")), "00"},
		{list(text("ab")), "02 61 62"},
		{list(text("\x00\xff\x80")), "03 00 ff 80"},
		{list(text(strings.Repeat("\xff", 127))), "7f" + strings.Repeat("ff", 127)},
		{list(text(strings.Repeat("\x00", 128))), "80 01" + strings.Repeat("00", 128)},
		{list(text(strings.Repeat("a", 20000))), "a0 9c 01" + strings.Repeat("61", 20000)},
		{list(truth(false)), "00"},
		{list(truth(true)), "01"},
		{list(num(300), whole(-3), word(258), text("ab"), truth(true)), "ac 02 05 02 01 00 00 02 61 62 01"},
		{list(truth(false), text(""), text(""), truth(true), num(0)), "00 00 00 01 00"},
	} {
		if got, want := Fields(laid(c.l)), bytesOf(t, c.want); !slices.Equal(got, want) {
			t.Errorf("Fields(%s): %.60x; want %.60x", shown(c.l), got, want)
		}
	}
}

func TestFieldsAreOneBehindTheOther(t *testing.T) {
	r := rand.New(rand.NewSource(1))
	for range 2000 {
		l := chanceRow(r)
		var want []byte
		for _, f := range l {
			want = append(want, Fields(list(f))...)
		}
		if got := Fields(l); !slices.Equal(got, want) {
			t.Fatalf("Fields(%s): %x; one by one %x", shown(l), got, want)
		}
	}
}

func TestFieldsOfUnfitOnesAreNothing(t *testing.T) {
	for _, f := range unfit() {
		for at := range 4 {
			l := slices.Insert(list(num(300), text("ab"), truth(true)), at, f)
			if got := Fields(l); len(got) != 0 {
				t.Errorf("Fields(%s): %x", shown(l), got)
			}
		}
	}
}

func TestFieldsLeaveTheirList(t *testing.T) {
	l := append(make([]api.Field, 0, 4), num(7), text("a"))
	Fields(l)
	Key(l)
	Order(l, l)
	if want := list(num(7), text("a"), api.Field{}, api.Field{}); !slices.Equal(l[:4], want) {
		t.Errorf("the list was changed: %s", shown(l[:4]))
	}
	a := Fields(l)
	a[0] = 99
	if b := Fields(l); b[0] != 7 {
		t.Errorf("two answers share memory: %x", b)
	}
}

func TestSize(t *testing.T) {
	for _, f := range edges() {
		if got, want := Size(f), len(Fields(list(f))); got != want || got == 0 {
			t.Errorf("Size(%s): %d; Fields are %d", shown(list(f)), got, want)
		}
	}
	for _, f := range unfit() {
		if got := Size(f); got != 0 {
			t.Errorf("Size(%s): %d; want 0", shown(list(f)), got)
		}
	}
	for _, c := range []struct {
		f    api.Field
		want int
	}{
		{num(0), 1}, {num(127), 1}, {num(128), 2}, {num(1<<56 - 1), 8}, {num(1 << 56), 9}, {num(math.MaxInt64), 9},
		{whole(0), 1}, {whole(-64), 1}, {whole(64), 2}, {whole(-65), 2}, {whole(math.MaxInt64), 10}, {whole(math.MinInt64), 10}, {whole(-1 << 62), 9}, {whole(1 << 62), 10},
		{word(0), 4}, {word(math.MaxUint32), 4}, {text(""), 1}, {text("ab"), 3}, {text(strings.Repeat("a", 127)), 128}, {text(strings.Repeat("a", 128)), 130},
		{truth(false), 1}, {truth(true), 1},
	} {
		if got := Size(c.f); got != c.want {
			t.Errorf("Size(%s): %d; want %d", shown(list(c.f)), got, c.want)
		}
	}
}
