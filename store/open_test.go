package store

import (
	"encoding/binary"
	"math"
	"math/rand"
	"strings"
	"testing"

	"reef/api"
	"reef/sector"
)

// P10.2

func TestOpenTellsWhatKvTells(t *testing.T) {
	d := sector.New(20)
	for _, head := range []int{-1, 0, 5, 21, math.MaxInt, math.MinInt} {
		if s, e := Open(d, head); s != nil || e != api.ErrNumber {
			t.Fatalf("%d: %v", head, e)
		}
		if s, e := Open(nil, head); s != nil || e != api.ErrDead {
			t.Fatalf("%d of no device: %v", head, e)
		}
	}
	for _, head := range []int{6, 10, 20} {
		if s, e := Open(d, head); s != nil || e != api.ErrForm {
			t.Fatalf("%d where no head stands: %v", head, e)
		}
	}
	format(t, d, 10)
	d.Lose(0)
	for _, head := range []int{5, 10, 21} {
		if s, e := Open(d, head); s != nil || e != api.ErrDead {
			t.Fatalf("%d without power: %v", head, e)
		}
	}
	d.On()
	want(t, open(t, d, 10), empty(10))
}

// faults is what a key may have that is no value, on a device of 10 data sectors.
func faults() map[string]string {
	const most = math.MaxInt64
	nine := strings.Repeat("\xff", 9)
	return map[string]string{
		"nothing":               "",
		"a flag of another one": "\x02\x00",
		"no flag":               "\x80\x00",

		"a short one of nothing":            "\x00",
		"a short one cut off":               "\x00\x02a",
		"a short one of 65 bytes":           shortBytes(body(65, 1)),
		"a short one of 300 bytes":          shortBytes(body(300, 1)),
		"a short one with a byte behind":    shortBytes("a") + "\x00",
		"a short one, its length too long":  "\x00\x81\x00a",
		"a short one of a long one's parts": "\x00" + longBytes(65, 0, 2)[1:],

		"a long one of nothing":       "\x01",
		"a long one of text":          "\x01" + txt("abc"),
		"a length alone":              "\x01" + num(65),
		"no extents behind the count": "\x01" + num(65) + num(1),
		"half an extent":              longBytes(65, 0),
		"an At alone":                 "\x01" + num(65) + num(1) + num(0),
		"one of two extents":          "\x01" + num(129) + num(2) + num(0) + num(2),
		"two where one is told":       "\x01" + num(129) + num(1) + num(0) + num(3) + num(4) + num(1),
		"an extent where none":        "\x01" + num(65) + num(0) + num(0) + num(2),
		"a byte behind":               longBytes(65, 0, 2) + "\x00",
		"a number cut off":            longBytes(65, 0, 2)[:4] + "\x80",
		"a length in too many bytes":  "\x01\xc1\x80\x00" + longBytes(65, 0, 2)[2:],
		"a count in too many bytes":   "\x01\x41\x81\x00\x00\x02",
		"an At in too many bytes":     "\x01\x41\x01\x80\x00\x02",
		"a Num in too many bytes":     "\x01\x41\x01\x00\x82\x00",
		"a length of 64 bits":         "\x01" + nine + "\x01\x01\x00\x02",
		"a count of 64 bits":          "\x01\x41" + nine + "\x01\x00\x02",
		"an At of 64 bits":            "\x01\x41\x01" + nine + "\x01\x02",
		"a count of 2^63 - 1":         "\x01\x41" + num(most) + "\x00\x02",
		"a count of 2^62":             "\x01\x41" + num(1<<62) + "\x00\x02",
		"a count of 2^62 and one":     "\x01\x41" + num(1<<62+1) + "\x00\x02", // twice it is 2, come round
		"a count of 2^63 and one":     "\x01\x41" + num(1<<63+1) + "\x00\x02",

		"a long one of 0 bytes":          longBytes(0),
		"a long one of 0, of a sector":   longBytes(0, 0, 1),
		"a long one of 1 byte":           longBytes(1, 0, 1),
		"a long one of 63 bytes":         longBytes(63, 0, 1),
		"a long one of 64 bytes":         longBytes(64, 0, 1),
		"a long one of 64, of 2 sectors": longBytes(64, 0, 2),

		"no sectors":                 longBytes(65),
		"a sector too few":           longBytes(65, 0, 1),
		"a sector too few of three":  longBytes(129, 0, 1, 5, 1),
		"a sector too many":          longBytes(65, 0, 3),
		"a sector more than is full": longBytes(128, 0, 3),
		"one too many, of two":       longBytes(128, 0, 1, 4, 2),
		"a sector that is not there": longBytes(65, 9, 2),
		"the one behind the last":    longBytes(65, 0, 1, 10, 1),
		"all, and one":               longBytes(641, 0, 11),
		"all of far behind":          longBytes(65, 10, 2),
		"an At of 2^63 - 1":          longBytes(65, most, 2),
		"an At of 2^62":              longBytes(65, 1<<62, 2),
		"an At of 2^32":              longBytes(65, 1<<32, 2),
		"a Num of 0":                 longBytes(65, 0, 2, 5, 0),
		"a Num of 0 ahead":           longBytes(65, 5, 0, 0, 2),
		"a Num of 0 alone":           longBytes(65, 0, 0),
		"a Num of 2^63 - 1":          longBytes(65, 0, most),
		"a length of 2^63 - 1":       longBytes(most, 0, 10),
		"Nums that come round to 2":  longBytes(65, 0, most, 0, most, 0, 4),
		"Nums of 2^62, round to 2":   longBytes(65, 0, 1<<62, 0, 1<<62, 0, 1<<62, 0, 1<<62, 0, 2),
		"a sector twice":             longBytes(65, 3, 1, 3, 1),
		"a sector twice of three":    longBytes(200, 3, 2, 4, 2),
		"a sector twice, turned":     longBytes(200, 4, 2, 3, 2),
	}
}

func TestValuesOfNoForm(t *testing.T) {
	good := pr("a", shortBytes("1"), "c", longBytes(129, 7, 3), "d", shortBytes(""))
	for name, text := range faults() {
		for _, key := range []string{"", "b", "z"} {
			alone := forged(t, 60, 50, pr(key, text)...)
			if s, e := Open(alone, 50); s != nil || e != api.ErrForm {
				t.Errorf("%s at %q: %v", name, key, e)
			}
			among := forged(t, 60, 50, append(pr(key, text), good...)...)
			wantSilent(t, among, func() {
				if s, e := Open(among, 50); s != nil || e != api.ErrForm {
					t.Errorf("%s at %q, among others: %v", name, key, e)
				}
			})
		}
	}
	open(t, forged(t, 60, 50, good...), 50)
}

func TestASectorOfTwoValues(t *testing.T) {
	for _, l := range [][]api.Pair{
		pr("a", longBytes(65, 0, 2), "b", longBytes(65, 0, 2)),
		pr("a", longBytes(65, 0, 2), "b", longBytes(65, 1, 2)),
		pr("a", longBytes(65, 4, 2), "b", longBytes(65, 3, 2)),
		pr("a", longBytes(300, 3, 5), "b", longBytes(128, 0, 1, 5, 1)),
		pr("a", longBytes(640, 0, 10), "b", shortBytes("b"), "c", longBytes(65, 8, 2)),
		pr("a", longBytes(65, 0, 2), "b", longBytes(65, 4, 2), "c", longBytes(65, 2, 1, 4, 1)),
	} {
		if s, e := Open(forged(t, 60, 50, l...), 50); s != nil || e != api.ErrForm {
			t.Errorf("%q: %v", l, e)
		}
	}
}

// Sectors of which the keys tell may be cut into extents in other ways, and in another order, than Apply does.
func TestValuesOfTheForm(t *testing.T) {
	for _, c := range []struct {
		length  int
		extents []int
		free    int
	}{
		{65, []int{0, 2}, 8},
		{128, []int{8, 2}, 8},
		{65, []int{0, 1, 1, 1}, 8},
		{128, []int{9, 1, 0, 1}, 8},
		{129, []int{5, 1, 4, 1, 3, 1}, 7},
		{640, []int{0, 10}, 0},
		{577, []int{5, 5, 0, 5}, 0},
		{576, []int{5, 5, 1, 4}, 1},
	} {
		v, at := body(c.length, 3), []uint64{}
		for _, x := range c.extents {
			at = append(at, uint64(x))
		}
		d := forged(t, 60, 50, pr("k", longBytes(uint64(c.length), at...), "s", shortBytes(body(64, 2)), "", shortBytes(""))...)
		chunks := padded(v)
		for _, x := range ex(c.extents...) {
			for i := range x.Num {
				d.Write(50+x.At+i, []byte(chunks[0]))
				chunks = chunks[1:]
			}
		}
		s := open(t, d, 50)
		wantGet(t, s, "k", v, api.OK)
		wantGet(t, s, "s", body(64, 2), api.OK)
		wantGet(t, s, "", "", api.OK)
		wantWhere(t, s, "k", c.extents...)
		wantFree(t, s, c.free)
		wantApply(t, s, sets("k", "short"), api.OK)
		wantFree(t, s, 10)
	}
}

// What stands behind a value in its last sector is not asked for: the keys alone tell.
func TestBytesBehindAValue(t *testing.T) {
	d := forged(t, 60, 50, pr("k", longBytes(65, 0, 2))...)
	for k := range 10 {
		d.Write(50+k, []byte(body(size, 200)))
	}
	wantGet(t, open(t, d, 50), "k", body(size, 200)+body(1, 200), api.OK)
}

// Free are just the sectors in which no long value lies, whatever is in them.
func TestWhatIsFreeBehindOpen(t *testing.T) {
	d := sector.New(60)
	s := format(t, d, 50)
	m := wantDone(t, d, s, empty(10), sets("a", body(130, 1), "b", body(65, 2), "c", body(200, 3)))
	m = wantDone(t, d, s, m, goes("b"))
	s = open(t, d, 50)
	want(t, s, m)
	wantFree(t, s, 3)
	m = wantDone(t, d, s, m, sets("d", body(190, 4)))
	wantWhere(t, s, "d", 3, 2, 9, 1)
	s = open(t, d, 50)
	wantFree(t, s, 0)
	wantApply(t, s, sets("e", body(65, 1)), api.ErrSpace)
	wantDone(t, d, s, m, sets("e", body(64, 1)))
}

func TestOpenReadsOnly(t *testing.T) {
	d := sector.New(60)
	s := format(t, d, 50)
	m := wantDone(t, d, s, empty(10), sets("a", body(130, 1), "b", "2"))
	wantSilent(t, d, func() {
		o := open(t, d, 50)
		want(t, o, m)
		o.Names("a", "b")
		o.Where("a")
		o.Free()
		o.Sound()
	})
}

// One store goes on, of another one each call is by a store that was opened just then: both devices have the same, byte by byte.
func TestOneThatWasOpenedGoesOn(t *testing.T) {
	r := rand.New(rand.NewSource(101))
	for range 30 {
		head := 6 + r.Intn(60)
		d, twin := sector.New(90), sector.New(90)
		s := format(t, d, head)
		format(t, twin, head)
		for range 40 {
			l := changes(r)
			o := open(t, twin, head)
			if e, f := s.Apply(l), o.Apply(l); e != f {
				t.Fatalf("%v; of the one that was opened %v", e, f)
			}
			wantAlike(t, d, twin)
			if s.Free() != o.Free() {
				t.Fatalf("%d are free, and %d", s.Free(), o.Free())
			}
		}
	}
}

// changes is changes by chance, of few names, with values of many lengths.
func changes(r *rand.Rand) []api.Put {
	names := []string{"", "a", "b", "ab", "\x00", "\xff\xff", "a\x00", "name"}
	lengths := []int{0, 1, 63, 64, 65, 127, 128, 129, 192, 193, 300, 640}
	var l []api.Put
	for range r.Intn(5) {
		p := api.Put{Name: names[r.Intn(len(names))], Gone: r.Intn(4) == 0}
		if !p.Gone || r.Intn(4) == 0 {
			p.Value = chance(r, lengths[r.Intn(r.Intn(len(lengths))+1)])
		}
		l = append(l, p)
	}
	return l
}

// numberOf takes a number from the front of a text, in the one form that chapter 2 says.
func numberOf(s string) (uint64, string, bool) {
	x, n := binary.Uvarint([]byte(s))
	if n <= 0 || x > math.MaxInt64 || num(x) != s[:n] {
		return 0, "", false
	}
	return x, s[n:], true
}

// judged is whether a key of a device of so many data sectors has a value, by the chapter's words, and in how many sectors that lies.
func judged(s string, total int) (int, bool) {
	if s == "" || s[0] > 1 {
		return 0, false
	}
	length, rest, is := numberOf(s[1:])
	if s[0] == 0 {
		return 0, is && length <= 64 && length == uint64(len(rest))
	}
	count, rest, ok := numberOf(rest)
	if !is || !ok || length <= 64 {
		return 0, false
	}
	seen := map[uint64]int{}
	for ; count > 0; count-- {
		var at, n uint64
		if at, rest, is = numberOf(rest); !is {
			return 0, false
		}
		if n, rest, is = numberOf(rest); !is || n < 1 || n > uint64(total) || at > uint64(total)-n {
			return 0, false
		}
		for i := range n {
			seen[at+i]++
			if seen[at+i] > 1 {
				return 0, false
			}
		}
	}
	return len(seen), rest == "" && uint64(len(seen)) == (length+63)/64
}

// Texts by chance, many of them nearly of the form: Open takes just those that the chapter's words take.
func TestTextsByChance(t *testing.T) {
	r := rand.New(rand.NewSource(106))
	bytes := []string{"\x00", "\x01", "\x01", "\x02", "\x02", "\x03", "\x05", "\x09", "\x0a", "\x40", "\x41", "\x41", "\x41", "\x80", "\x80\x01", "\x81\x01", "\xff"}
	longs, shorts, none := 0, 0, 0
	for i := range 60000 {
		s := []string{"", "\x00", "\x01", "\x01\x41\x01", "\x01\x41\x02", "\x01\x81\x01\x02"}[r.Intn(6)]
		for range r.Intn(6) {
			s += bytes[r.Intn(len(bytes))]
		}
		if i%8 == 0 {
			s = shortBytes(chance(r, r.Intn(68)))
		}
		o, e := Open(forged(t, 22, 12, pr("k", s)...), 12)
		n, is := judged(s, 10)
		switch {
		case is != (e == api.OK) || !is && (o != nil || e != api.ErrForm):
			t.Fatalf("%q: %v; by the words it is %v", s, e, is)
		case !is:
			none++
			continue
		case n > 0:
			longs++
		default:
			shorts++
		}
		wantFree(t, o, 10-n)
	}
	if longs < 100 || shorts < 100 || none < 100 {
		t.Fatalf("%d long, %d short, %d none", longs, shorts, none)
	}
}
