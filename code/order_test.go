package code

import (
	"math"
	"math/rand"
	"slices"
	"strings"
	"testing"

	"reef/api"
)

// less is the order of fields by the chapter's words.
func less(f, g api.Field) bool {
	if f.Kind != g.Kind {
		return f.Kind < g.Kind
	}
	switch f.Kind {
	case api.FdText:
		for i := range len(f.Text) {
			if i == len(g.Text) {
				return false
			}
			if f.Text[i] != g.Text[i] {
				return f.Text[i] < g.Text[i]
			}
		}
		return len(f.Text) < len(g.Text)
	case api.FdFlag:
		return !f.Is && g.Is
	}
	return f.Num < g.Num
}

// orderByWords is the order of rows by the chapter's words.
func orderByWords(a, b []api.Field) int {
	for i := range min(len(a), len(b)) {
		if less(a[i], b[i]) {
			return -1
		}
		if less(b[i], a[i]) {
			return 1
		}
	}
	switch {
	case len(a) < len(b):
		return -1
	case len(a) > len(b):
		return 1
	}
	return 0
}

// P2.7

func TestOrderKnown(t *testing.T) {
	for _, c := range []struct {
		a, b []api.Field
		want int
	}{
		{nil, nil, 0},
		{nil, list(), 0},
		{nil, list(num(0)), -1},
		{nil, list(text("")), -1},
		{nil, list(truth(false)), -1},
		{list(num(0)), list(num(0)), 0},
		{list(num(9)), list(num(10)), -1},
		{list(num(256)), list(num(1)), 1},
		{list(num(0)), list(num(math.MaxInt64)), -1},
		{list(whole(-1)), list(whole(0)), -1},
		{list(whole(-1)), list(whole(-2)), 1},
		{list(whole(math.MinInt64)), list(whole(math.MaxInt64)), -1},
		{list(word(258)), list(word(259)), -1},
		{list(word(1)), list(word(math.MaxUint32)), -1},
		{list(text("")), list(text("\x00")), -1},
		{list(text("a")), list(text("ab")), -1},
		{list(text("ab")), list(text("b")), -1},
		{list(text("\xff")), list(text("a\xff")), 1},
		{list(text("\x80")), list(text("\x7f")), 1},
		{list(text("a\x00")), list(text("a\x01")), -1},
		{list(truth(false)), list(truth(true)), -1},
		{list(truth(true)), list(truth(true)), 0},
		{list(num(math.MaxInt64)), list(whole(math.MinInt64)), -1}, // kinds come first
		{list(whole(7)), list(word(3)), -1},
		{list(word(7)), list(text("")), -1},
		{list(text("z")), list(truth(false)), -1},
		{list(num(1), text("b")), list(num(1), text("a"), num(9)), 1},
		{list(num(1), text("a")), list(num(1), text("a"), num(0)), -1},
		{list(num(1), text("a")), list(num(2)), -1},
		{list(num(1), text("a"), truth(true)), list(num(1), text("a"), truth(true)), 0},
		{list(num(1), num(5)), list(num(1), whole(4)), -1},
	} {
		if got := Order(laid(c.a), laid(c.b)); got != c.want {
			t.Errorf("Order(%s, %s): %d; want %d", shown(c.a), shown(c.b), got, c.want)
		}
		if got := Order(laid(c.b), laid(c.a)); got != -c.want {
			t.Errorf("Order(%s, %s): %d; want %d", shown(c.b), shown(c.a), got, -c.want)
		}
	}
}

func TestOrderByTheChaptersWords(t *testing.T) {
	l := edges()
	for _, f := range l {
		for _, g := range l {
			if got, want := Order(list(f), list(g)), orderByWords(list(f), list(g)); got != want {
				t.Fatalf("Order(%s, %s): %d; want %d", shown(list(f)), shown(list(g)), got, want)
			}
		}
	}
	r := rand.New(rand.NewSource(20))
	for range 20000 {
		a := chanceRow(r)
		b := append(slices.Clone(a[:r.Intn(len(a)+1)]), chanceRow(r)...)
		if got, want := Order(a, b), orderByWords(a, b); got != want {
			t.Fatalf("Order(%s, %s): %d; want %d", shown(a), shown(b), got, want)
		}
	}
}

func TestOrderOfUnfitOnesIsNone(t *testing.T) {
	for _, f := range unfit() {
		for _, c := range [][2][]api.Field{
			{list(f), nil}, {list(f), list(num(1))}, {list(f), list(truth(true))}, {list(f), list(f, num(1))},
			{list(num(1), f), list(num(2))}, {list(num(1), text("a"), f), list(num(1))},
			{list(num(2), f), list(num(1), f)}, {list(f, num(2)), list(f, num(1))},
		} {
			if got := Order(c[0], c[1]); got != 0 {
				t.Errorf("Order(%s, %s): %d; want 0", shown(c[0]), shown(c[1]), got)
			}
			if got := Order(c[1], c[0]); got != 0 {
				t.Errorf("Order(%s, %s): %d; want 0", shown(c[1]), shown(c[0]), got)
			}
		}
	}
}

// P2.10

// sameOrder holds the order of the keys against that of the rows.
func sameOrder(t *testing.T, a, b []api.Field) {
	t.Helper()
	if got, want := strings.Compare(Key(a), Key(b)), Order(a, b); got != want {
		t.Fatalf("the keys of %s and %s are %.60x and %.60x: their order is %d; that of the rows %d", shown(a), shown(b), Key(a), Key(b), got, want)
	}
}

func TestKeysKeepTheOrderOfFields(t *testing.T) {
	for _, f := range edges() {
		for _, g := range edges() {
			if f.Kind == g.Kind && Size(f) < 1000 && Size(g) < 1000 {
				sameOrder(t, list(f), list(g))
				sameOrder(t, list(f, num(5)), list(g, num(4)))
			}
		}
	}
}

// shortTexts is all texts of at most n bytes, each byte one of some.
func shortTexts(some string, n int) []string {
	l := []string{""}
	last := l
	for range n {
		var next []string
		for _, s := range last {
			for i := range len(some) {
				next = append(next, s+some[i:i+1])
			}
		}
		l = append(l, next...)
		last = next
	}
	return l
}

func TestKeysKeepTheOrderOfTexts(t *testing.T) {
	l := shortTexts("\x00\x01\x02\xfe\xff", 3)
	for _, a := range l {
		for _, b := range l {
			sameOrder(t, list(text(a)), list(text(b)))
			sameOrder(t, list(text(a), text(b)), list(text(b), text(a)))
			sameOrder(t, list(text(a), truth(true)), list(text(b), truth(false)))
			sameOrder(t, list(text(a)), list(text(b), num(math.MaxInt64)))
		}
	}
}

func TestKeysKeepTheOrderOfRows(t *testing.T) {
	r := rand.New(rand.NewSource(21))
	for range 50000 {
		var a, b []api.Field
		for range r.Intn(6) {
			k := 1 + r.Intn(5)
			f := chance(r, k)
			a = append(a, f)
			if r.Intn(3) == 0 {
				f = chance(r, k)
			}
			b = append(b, f)
		}
		if r.Intn(3) == 0 {
			b = b[:r.Intn(len(b)+1)]
		}
		sameOrder(t, a, b)
		sameOrder(t, b, a)
		sameOrder(t, a, slices.Clone(a))
	}
}

// P2.8

func TestAfterKnown(t *testing.T) {
	for _, c := range []struct {
		s, want string
		is      bool
	}{
		{"ab", "ac", true}, {"a\xff", "b", true}, {"\xff", "", false}, {"", "", false}, {"\xff\xff\xff", "", false},
		{"\x00", "\x01", true}, {"\xfe", "\xff", true}, {"\xfe\xff\xff", "\xff", true}, {"\x00\xff", "\x01", true},
		{"a\xff\xff", "b", true}, {"a\xffb", "a\xffc", true}, {"\xffa", "\xffb", true}, {"\xff\x00", "\xff\x01", true},
		{"a\x7f", "a\x80", true}, {"a\xfe", "a\xff", true}, {"a\xfd\xff", "a\xfe", true}, {"żółw", "żółx", true}, {"\xc3\xbf", "\xc3\xc0", true},
		{strings.Repeat("\xff", 10000), "", false}, {"b" + strings.Repeat("\xff", 10000), "c", true},
	} {
		if got, is := After(c.s); got != c.want || is != c.is {
			t.Errorf("After(%.60q): %q %t; want %q %t", c.s, got, is, c.want, c.is)
		}
	}
}

func TestAfterIsTheLeast(t *testing.T) {
	l := shortTexts("\x00\x01\x7f\xfe\xff", 4)
	for _, s := range shortTexts("\x00\x01\x7f\xfe\xff", 3) {
		behind, is := After(s)
		far := s + strings.Repeat("\xff", 9) // greater than all those of the list that begin with s
		if is && behind <= far {
			t.Fatalf("After(%q): %q; %q is not less", s, behind, far)
		}
		for _, u := range l {
			if u > far && (!is || u < behind) {
				t.Fatalf("After(%q): %q %t; %q is greater than all that begin with it, and less", s, behind, is, u)
			}
		}
	}
}

// P2.11

func TestWhatBeginsWithATextLiesUpToBehindIt(t *testing.T) {
	l := shortTexts("\x00\x01\x7f\xfe\xff", 4)
	for _, s := range shortTexts("\x00\x01\x7f\xfe\xff", 3) {
		behind, is := After(s)
		for _, u := range l {
			within := s <= u && (!is || u < behind)
			if within != strings.HasPrefix(u, s) {
				t.Fatalf("%q lies from %q to below %q %t: %t", u, s, behind, is, within)
			}
		}
	}
}

func TestRowsThatGoOnLieUpToBehindTheirBeginning(t *testing.T) {
	r := rand.New(rand.NewSource(22))
	for range 5000 {
		a := append(list(text("a")), chanceRow(r)...)
		b := append(slices.Clone(a), chanceRow(r)...)
		behind, is := After(Key(a))
		if !is || Key(b) < Key(a) || Key(b) >= behind {
			t.Fatalf("the key %x of %s does not lie from %x to below %x", Key(b), shown(b), Key(a), behind)
		}
	}
}
