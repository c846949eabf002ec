package store

import (
	"math/rand"
	"slices"
	"strings"
	"testing"

	"reef/api"
	"reef/extent"
	"reef/sector"
)

// P10.3

// lengths is those at which the form of a value, or how many sectors it takes, changes.
func lengths() []int {
	l := []int{0, 1, 2, 62}
	for k := 1; k < 21; k++ {
		l = append(l, k*size-1, k*size, k*size+1)
	}
	return append(l, 100*size-1, 100*size)
}

func TestLengths(t *testing.T) {
	d := sector.New(160)
	s := format(t, d, 60)
	m := empty(100)
	for i, n := range lengths() {
		m = wantDone(t, d, s, m, sets("k", body(n, byte(i))))
		need := 0
		if n > 64 {
			need = (n + 63) / 64
		}
		wantFree(t, s, 100-need)
		m = wantDone(t, d, s, m, goes("k"))
		wantFree(t, s, 100)
	}
}

// Of the bytes of a value, and of a name, all may be any.
func TestBytesOfAllKinds(t *testing.T) {
	d := sector.New(300)
	s := format(t, d, 200)
	m := empty(100)
	r := rand.New(rand.NewSource(102))
	var all []byte
	for c := range 256 {
		all = append(all, byte(c))
	}
	zeros := strings.Repeat("\x00", 200)
	for _, l := range [][]api.Put{
		sets("zeros", zeros, "ones", strings.Repeat("\xff", 65), "nought", zeros[:64]),
		sets(string(all), string(all), "", zeros[:65], "\x00", zeros[:1]),
		sets("a key's bytes", shortBytes("a"), "a long one's", longBytes(65, 0, 2), zeros, longBytes(65, 0, 2)+zeros),
		sets("by chance", chance(r, 64), chance(r, 60), chance(r, 65), chance(r, 90), chance(r, 500)),
	} {
		m = wantDone(t, d, s, m, l)
	}
}

func TestGetOfNone(t *testing.T) {
	d := sector.New(60)
	s := format(t, d, 50)
	m := wantDone(t, d, s, empty(10), sets("b", "", "bb", body(65, 1)))
	for _, name := range []string{"", "a", "B", "b\x00", "bbb", "c"} {
		wantGet(t, s, name, "", api.ErrNone)
		wantWhere(t, s, name)
	}
	wantDone(t, d, s, m, goes("b", "bb"))
	wantGet(t, s, "b", "", api.ErrNone)
	wantGet(t, s, "bb", "", api.ErrNone)
	wantWhere(t, s, "bb")
}

func TestGetWithoutPower(t *testing.T) {
	d := sector.New(60)
	s := format(t, d, 50)
	m := wantDone(t, d, s, empty(10), sets("long", body(65, 1), "short", body(64, 2), "", ""))
	d.Lose(0)
	for range 2 {
		wantGet(t, s, "long", "", api.ErrDead)
		wantGet(t, s, "short", body(64, 2), api.OK)
		wantGet(t, s, "", "", api.OK)
		wantGet(t, s, "none", "", api.ErrNone)
		wantWhere(t, s, "long", 0, 2)
		wantFree(t, s, 8)
		if l := s.Names("", ""); !slices.Equal(l, []string{"", "long", "short"}) {
			t.Fatalf("Names: %q", l)
		}
	}
	d.On() // a Get that found no power is no Apply: the store goes on
	want(t, s, m)
	wantDone(t, d, s, m, sets("long", body(200, 3)))
}

// P10.4

func TestNames(t *testing.T) {
	d := sector.New(90)
	s := format(t, d, 80)
	names := []string{"", "\x00", "a", "a\x00", "ab", "b", "\x7f", "\x80", "\xff", "\xff\xff"}
	var l []api.Put
	for i, name := range names {
		l = append(l, api.Put{Name: name, Value: body(60+i, 1)}) // some are long
	}
	slices.Reverse(l)
	wantApply(t, s, l[:4], api.OK)
	wantApply(t, s, l[4:], api.OK)
	froms := append([]string{"\x00\x00", "aa", "abc", "c", "\xff\x01", "\xff\xff\x00", "\xff\xff\xff"}, names...)
	for _, from := range froms {
		for _, to := range froms {
			var all []string
			for _, name := range names {
				if name >= from && (to == "" || name < to) {
					all = append(all, name)
				}
			}
			if got := s.Names(from, to); !slices.Equal(got, all) {
				t.Fatalf("Names(%q, %q): %q; want %q", from, to, got, all)
			}
		}
	}
}

func TestWhere(t *testing.T) {
	d := sector.New(60)
	s := format(t, d, 50)
	wantApply(t, s, sets("c", body(65, 1), "a", body(129, 2), "b", body(64, 3)), api.OK)
	wantWhere(t, s, "a", 0, 3)
	wantWhere(t, s, "b")
	wantWhere(t, s, "c", 3, 2)
	wantWhere(t, s, "d")
	wantApply(t, s, append(sets("d", body(300, 4)), goes("a")...), api.OK)
	wantWhere(t, s, "d", 5, 5)
	wantApply(t, s, goes("c"), api.OK)
	wantApply(t, s, sets("d", body(129, 5)), api.OK)
	wantApply(t, s, sets("e", body(400, 6)), api.OK)
	wantWhere(t, s, "d", 0, 3)
	wantWhere(t, s, "e", 3, 7)
}

// What is answered is new memory, and what is handed in is neither kept nor changed.
func TestListsOfTheirOwn(t *testing.T) {
	d := sector.New(60)
	s := format(t, d, 50)
	room := append(make([]api.Put, 0, 9), sets("b", body(100, 1), "a", "1", "b", body(65, 2), "spare", "room")...)
	kept := slices.Clone(room)
	wantApply(t, s, room[:3], api.OK)
	if !slices.Equal(room, kept) {
		t.Fatalf("what was handed in is changed: %.60v", room)
	}
	clear(room)
	m, _ := empty(10).apply(kept[:3])
	for range 2 {
		want(t, s, m.model)
		at, names := s.Where("b"), s.Names("", "")
		at[0], names[0] = api.Extent{At: 5, Num: 5}, "no"
		_, _ = append(at[:0], at...), append(s.Names("", "b"), "no")
	}
	at := s.Where("b")
	wantDone(t, d, s, m.model, sets("b", body(200, 3)))
	if !slices.Equal(at, ex(0, 2)) {
		t.Fatalf("a list of ahead is changed: %d", at)
	}
}

// P10.5

func TestFree(t *testing.T) {
	d := sector.New(60)
	s := format(t, d, 50)
	wantFree(t, s, 10)
	for _, c := range []struct {
		l    []api.Put
		free int
	}{
		{sets("a", body(64, 1)), 10},
		{sets("a", body(65, 1)), 8},
		{sets("b", body(193, 1)), 4},
		{nil, 4},
		{sets("a", body(66, 1)), 4},
		{sets("a", body(256, 1)), 2},
		{goes("b"), 6},
		{goes("b"), 6},
		{sets("a", ""), 10},
	} {
		wantApply(t, s, c.l, api.OK)
		wantFree(t, s, c.free)
	}
}

// A store that is not sound never comes about: these are made so by hand.
func TestSoundTells(t *testing.T) {
	d := sector.New(60)
	s := format(t, d, 50)
	wantApply(t, s, sets("a", body(130, 1), "b", body(100, 2)), api.OK)
	free := s.free
	for _, l := range [][]api.Extent{ex(5, 5), ex(6, 4), ex(5, 1), nil} {
		if s.free = l; !s.Sound() {
			t.Fatalf("free %d: not sound", l)
		}
	}
	for _, l := range [][]api.Extent{ex(0, 10), ex(4, 6), ex(0, 1, 5, 5), ex(2, 1)} {
		if s.free = l; s.Sound() {
			t.Fatalf("free %d, where values lie: sound", l)
		}
	}
	s.free = free
	for _, c := range []struct {
		text string
		is   bool
	}{
		{longBytes(65, 2, 2), false},
		{longBytes(65, 4, 1, 5, 1), false},
		{longBytes(65, 8, 2), false},
		{shortBytes("c"), true},
	} {
		s.keys.Commit(nil, pr("c", c.text))
		if s.Sound() != c.is {
			t.Fatalf("with %q: Sound: %v", c.text, s.Sound())
		}
	}
	s.free, _ = extent.Claim(10, s.free, ex(8, 2))
	s.keys.Commit(nil, pr("c", longBytes(65, 8, 2)))
	wantFree(t, s, 3)
}
