package kv

import (
	"encoding/binary"
	"math"
	"math/rand"
	"slices"
	"strings"
	"testing"

	"reef/api"
	"reef/sector"
)

var ten = place{0, 10}

// P8.2

func TestOpenOfWhatIsNone(t *testing.T) {
	for _, c := range []byte{0, 1, 2, 0xff, 'K'} {
		wantNoOpen(t, sector.Load([]byte(strings.Repeat(string([]byte{c}), 10*size))), ten, api.ErrForm)
	}
	d := sector.New(20)
	format(t, d, place{5, 10})
	for _, p := range []place{{0, 10}, {4, 10}, {6, 10}, {0, 20}, {7, 10}} { // elsewhere no head stands
		wantNoOpen(t, d, p, api.ErrForm)
	}
	wantOpen(t, d, place{5, 10}, 1, nil)
	wantOpen(t, d, place{5, 11}, 1, nil)        // the areas are the same
	wantNoOpen(t, d, place{5, 12}, api.ErrForm) // they begin elsewhere: no first record
}

// numbers is heads' numbers, and whether they are such.
var numbers = []struct {
	n  int64
	is bool
}{
	{0, false}, {-1, false}, {math.MinInt64, false}, {1<<62 + 1, false}, {math.MaxInt64, false},
	{1, true}, {2, true}, {3, true}, {255, true}, {256, true}, {1 << 31, true}, {1<<32 - 1, true}, {1 << 32, true}, {1<<40 + 5, true}, {1<<62 - 1, true}, {1 << 62, true},
}

func TestGenerationsOfHeads(t *testing.T) {
	for _, c := range numbers {
		d := forged(t, 10, ten, 2, 7, checkpointBytes(pr("b", "2")...))
		forge(t, d, ten, 3, 7, checkpointBytes(pr("a", "1")...))
		for _, k := range []int{0, 1} { // the other head is none
			e := sector.Load(d.Image())
			write(t, e, 0, padded(nil), padded(nil))
			write(t, e, k, headBytes(c.n, 7))
			if c.is && c.n%2 == int64(k) {
				wantOpen(t, e, ten, c.n, [][]api.Pair{pr("b", "2"), pr("a", "1")}[k])
			} else {
				wantNoOpen(t, e, ten, api.ErrForm) // also one that stands in the other's place
			}
		}
	}
}

func TestNumbersOfHeads(t *testing.T) {
	for _, c := range numbers {
		if c.is {
			d := forged(t, 10, ten, 1, c.n, checkpointBytes(pr("a", "1")...))
			wantOpen(t, d, ten, 1, pr("a", "1"))
			continue
		}
		d := forged(t, 10, ten, 1, 1, checkpointBytes(pr("a", "1")...))
		wantOpen(t, d, ten, 1, pr("a", "1"))
		write(t, d, 1, headBytes(1, c.n))
		wantNoOpen(t, d, ten, api.ErrForm)
	}
}

// A head that is changed anywhere does not stand; the other one does.
func TestHeadsThatAreChanged(t *testing.T) {
	for i := range size {
		for bit := range 8 {
			d := forged(t, 10, ten, 5, 9, checkpointBytes(pr("a", "1")...))
			b := []byte(headBytes(5, 9))
			b[i] ^= 1 << bit
			write(t, d, 1, string(b))
			wantNoOpen(t, d, ten, api.ErrForm)
			forge(t, d, ten, 4, 3, checkpointBytes(pr("b", "2")...))
			wantOpen(t, d, ten, 4, pr("b", "2"))
		}
	}
}

func TestHeadsOfAnotherForm(t *testing.T) {
	sealed := func(s string) string {
		return padded(binary.LittleEndian.AppendUint32([]byte(s), sumOf([]byte(s))))
	}
	body := headBytes(1, 1)[4:20]
	for _, s := range []string{
		padded([]byte("KVHD" + body)),
		padded([]byte("KVHD" + body + "\x00\x00\x00\x01")),
		sealed("kvhd" + body), sealed("DHVK" + body), sealed("KVHE" + body), sealed("\x00\x00\x00\x00" + body),
		sealed("KVHD" + body + "\x00"), sealed("KVHD" + body[:12]),
		"KVHD" + headBytes(1, 1)[:60],
		headBytes(1, 1)[1:] + "\x00", "\x00" + headBytes(1, 1)[:63],
		headBytes(1, 1)[:63] + "\x01", headBytes(1, 1)[:24] + "\x01" + headBytes(1, 1)[25:],
		headBytes(0, 1), headBytes(-1, 1), headBytes(1, 0), headBytes(1, -1), headBytes(0, 0),
	} {
		d := forged(t, 10, ten, 1, 1, checkpointBytes())
		wantOpen(t, d, ten, 1, nil)
		write(t, d, 1, s)
		wantNoOpen(t, d, ten, api.ErrForm)
	}
}

func TestTheGreaterGenerationCounts(t *testing.T) {
	for _, c := range [][2]int64{{1, 2}, {2, 1}, {3, 2}, {2, 3}, {9, 256}, {256, 9}, {1 << 40, 1}, {1<<40 + 1, 1<<32 + 2}, {1 << 62, 1<<62 - 1}, {1<<62 - 1, 1 << 62}} {
		d := forged(t, 10, ten, c[0], 1, checkpointBytes(pr("x", "0")...))
		forge(t, d, ten, c[1], 1, checkpointBytes(pr("y", "1")...))
		l := pr("x", "0")
		if c[1] > c[0] {
			l = pr("y", "1")
		}
		wantOpen(t, d, ten, max(c[0], c[1]), l)
		at, _ := ten.area(max(c[0], c[1]))
		write(t, d, at, padded(nil)) // it counts all the same: the lesser one is over
		wantNoOpen(t, d, ten, api.ErrForm)
		write(t, d, ten.headAt(max(c[0], c[1])), headBytes(0, 0))
		open(t, d, ten)
	}
}

func TestFirstRecords(t *testing.T) {
	p := place{1, 40}
	none := map[string]string{
		"nothing":                   "",
		"a kind alone":              "\x01",
		"a commit":                  commitBytes(nil),
		"a commit of pairs":         commitBytes(nil, pr("a", "1")...),
		"kind 0":                    "\x00\x00",
		"kind 3":                    "\x03\x00",
		"kind 129":                  "\x81\x01\x00",
		"kind 1 in two bytes":       "\x81\x00\x00",
		"bytes behind":              checkpointBytes() + "\x00",
		"bytes behind pairs":        checkpointBytes(pr("a", "1")...) + "\x00",
		"a pair too few":            "\x01\x02\x01a\x011",
		"a pair too many":           "\x01\x01\x01a\x011\x01b\x012",
		"half a pair":               "\x01\x01\x01a",
		"a value cut off":           "\x01\x01\x01a\x02b",
		"a key cut off":             "\x01\x01\x05a",
		"a count in two bytes":      "\x01\x80\x00",
		"a count cut off":           "\x01\x80",
		"a length in two bytes":     "\x01\x01\x81\x00a\x011",
		"so many pairs":             "\x01\xff\xff\xff\xff\xff\xff\xff\xff\x7f",
		"so many and one":           "\x01\xff\xff\xff\xff\xff\xff\xff\xff\x7f\x01a\x011",
		"more than can be":          "\x01\xff\xff\xff\xff\xff\xff\xff\xff\xff\x01",
		"so long a key":             "\x01\x01\xff\xff\xff\xff\xff\xff\xff\xff\x7fa\x00",
		"keys that fall":            checkpointBytes(pr("b", "2", "a", "1")...),
		"a key twice":               checkpointBytes(pr("a", "1", "a", "1")...),
		"an empty key twice":        checkpointBytes(pr("", "1", "", "2")...),
		"a beginning behind":        checkpointBytes(pr("ab", "1", "a", "2")...),
		"the last keys fall":        checkpointBytes(pr("a", "1", "b", "2", "d", "3", "c", "4")...),
		"the first keys fall":       checkpointBytes(pr("b", "1", "a", "2", "c", "3")...),
		"bytes above 127 as signed": checkpointBytes(pr("\xff", "1", "a", "2")...),
	}
	for name, rec := range none {
		for _, more := range [][]string{nil, {commitBytes(nil)}, {checkpointBytes()}} {
			d := forged(t, 42, p, 3, 8, append([]string{rec}, more...)...)
			if b, e := Open(d, p.from, p.count); b != nil || e != api.ErrForm {
				t.Errorf("a first record of %s: %v", name, e)
			}
		}
	}
	wantNoOpen(t, forged(t, 42, p, 3, 8), p, api.ErrForm) // no record at all
	for _, l := range [][]api.Pair{
		nil, pr("", ""), pr("", "x"), pr("a", ""), pr("a", "1", "b", "2"), pr("a", "1", "a\x00", "2", "ab", "3", "b", "", "\x7f", "4", "\x80", "5", "\xff\xff", "6"),
		pr("A", "1", "a", strings.Repeat("long ", 100)), pr("", "", "\x00", "", "\x00\x00", ""),
	} {
		wantOpen(t, forged(t, 42, p, 3, 8, checkpointBytes(l...)), p, 3, l)
	}
}

func TestTheNumberOfTheFirstRecord(t *testing.T) {
	d := forged(t, 10, ten, 1, 5, checkpointBytes(pr("a", "1")...), commitBytes(nil, pr("b", "2")...))
	for n := int64(1); n < 9; n++ {
		write(t, d, 1, headBytes(1, n))
		if n <= 5 { // the record's number is that or more
			wantOpen(t, d, ten, 1, pr("a", "1", "b", "2"))
		} else {
			wantNoOpen(t, d, ten, api.ErrForm)
		}
	}
}

func TestOtherRecords(t *testing.T) {
	p := place{1, 40}
	none := map[string]string{
		"nothing":               "",
		"a kind alone":          "\x02",
		"no pairs":              "\x02\x00",
		"no pairs behind a key": "\x02\x01\x01a",
		"a checkpoint":          checkpointBytes(),
		"one of pairs":          checkpointBytes(pr("a", "1")...),
		"kind 0":                "\x00\x00\x00",
		"kind 3":                "\x03\x00\x00",
		"kind 130":              "\x82\x01\x00\x00",
		"kind 2 in two bytes":   "\x82\x00\x00\x00",
		"bytes behind":          commitBytes(nil) + "\x00",
		"a key too few":         "\x02\x02\x01a\x00",
		"a key cut off":         "\x02\x01\x02a",
		"a pair too few":        "\x02\x00\x02\x01a\x011",
		"a pair too many":       "\x02\x00\x00\x01a\x011",
		"half a pair":           "\x02\x00\x01\x01a",
		"a value cut off":       "\x02\x00\x01\x01a\x02b",
		"a count in two bytes":  "\x02\x80\x00\x00",
		"a length in two bytes": "\x02\x01\x81\x00a\x00",
		"so many keys":          "\x02\xff\xff\xff\xff\xff\xff\xff\xff\x7f",
		"so many keys, and one": "\x02\xff\xff\xff\xff\xff\xff\xff\xff\x7f\x01a\x00",
		"so many pairs":         "\x02\x00\xff\xff\xff\xff\xff\xff\xff\xff\x7f\x01a\x011",
		"more than can be":      "\x02\xff\xff\xff\xff\xff\xff\xff\xff\xff\x01\x00",
	}
	first, good := checkpointBytes(pr("a", "1")...), commitBytes([]string{"a"}, pr("b", "2")...)
	for name, rec := range none {
		for _, l := range [][]string{{first, rec}, {first, good, rec}, {first, rec, good}, {first, good, good, rec, good}} {
			d := forged(t, 42, p, 2, 8, l...)
			if b, e := Open(d, p.from, p.count); b != nil || e != api.ErrForm {
				t.Errorf("a record of %s behind the first: %v", name, e)
			}
		}
	}
}

func TestCommitsOneAfterAnother(t *testing.T) {
	p := place{0, 60}
	first := checkpointBytes(pr("a", "1", "b", "2", "c", "3")...)
	for _, c := range []struct {
		recs []string
		want []api.Pair
	}{
		{nil, pr("a", "1", "b", "2", "c", "3")},
		{[]string{commitBytes(nil)}, pr("a", "1", "b", "2", "c", "3")},
		{[]string{commitBytes([]string{"b"})}, pr("a", "1", "c", "3")},
		{[]string{commitBytes([]string{"c", "b", "a", "b", "x"})}, nil},
		{[]string{commitBytes(nil, pr("b", "9")...)}, pr("a", "1", "b", "9", "c", "3")},
		{[]string{commitBytes([]string{"b"}, pr("b", "9")...)}, pr("a", "1", "b", "9", "c", "3")}, // gone first, then set
		{[]string{commitBytes(nil, pr("z", "1", "b", "8", "", "e", "b", "9", "z", "2")...)}, pr("", "e", "a", "1", "b", "9", "c", "3", "z", "2")},
		{[]string{commitBytes(nil, pr("d", "4")...), commitBytes([]string{"d"}), commitBytes(nil, pr("d", "5")...)}, pr("a", "1", "b", "2", "c", "3", "d", "5")},
		{[]string{commitBytes(nil, pr("d", "5")...), commitBytes([]string{"d", "a"})}, pr("b", "2", "c", "3")},
		{[]string{commitBytes([]string{"a"}), commitBytes([]string{"a"}), commitBytes([]string{"a"}, pr("a", "")...)}, pr("a", "", "b", "2", "c", "3")},
	} {
		wantOpen(t, forged(t, 60, p, 1<<40, 1<<50, append([]string{first}, c.recs...)...), p, 1<<40, c.want)
	}
}

// What the journal doesn't tell says nothing: a record that is not whole, and what stands behind it.
func TestRecordsThatDoNotStand(t *testing.T) {
	d := forged(t, 10, ten, 1, 5, checkpointBytes(), commitBytes(nil, pr("a", "1")...), commitBytes(nil, pr("b", "2")...))
	wantOpen(t, d, ten, 1, pr("a", "1", "b", "2"))
	b := []byte(recordSectors(6, commitBytes(nil, pr("a", "1")...))[0])
	b[20] ^= 1
	write(t, d, 7, string(b))
	wantOpen(t, d, ten, 1, nil)
}

func TestOpenReadsOnly(t *testing.T) {
	d := sector.New(20)
	p := place{3, 15}
	b := format(t, d, p)
	wantCommit(t, b, nil, pr("a", strings.Repeat("1", 100)), api.OK)
	wantTurn(t, b, api.OK)
	for i, s := range recordSectors(4, commitBytes(nil, pr("b", "2")...)) { // in the cache, as a sector's last write
		d.Write(5+3+i, []byte(s))
	}
	wantSilent(t, d, func() {
		c := wantOpen(t, d, p, 2, pr("a", strings.Repeat("1", 100), "b", "2"))
		c.Get("a")
		c.Range("", "b")
		c.Len()
		c.Generation()
	})
}

// P8.7

func TestOpenBehindOpen(t *testing.T) {
	r := rand.New(rand.NewSource(81))
	d := sector.New(40)
	p := place{2, 37}
	b := format(t, d, p)
	for range 60 {
		b.Commit(nil, pr(chance(r, r.Intn(3)), chance(r, r.Intn(60))))
		l := b.Range("", "")
		wantSilent(t, d, func() {
			wantOpen(t, d, p, b.Generation(), l)
			wantOpen(t, d, p, b.Generation(), l)
		})
		wantOpen(t, sector.Load(d.Image()), p, b.Generation(), l)
	}
}

// One DB goes on, of another one each call is by a DB that was opened just then: both devices have the same, byte by byte.
func TestOneThatWasOpenedGoesOn(t *testing.T) {
	r := rand.New(rand.NewSource(82))
	for range 60 {
		p := place{r.Intn(3), 6 + r.Intn(30)}
		d, twin := sector.New(40), sector.New(40)
		b := format(t, d, p)
		format(t, twin, p)
		for range 50 {
			gone, sets := commitByChance(r)
			c := open(t, twin, p)
			var e, f api.Errno
			if r.Intn(8) == 0 {
				e, f = b.Turn(), c.Turn()
			} else {
				e, f = b.Commit(gone, sets), c.Commit(gone, sets)
			}
			if e != f {
				t.Fatalf("%v; of the one that was opened %v", e, f)
			}
			wantLaid(t, twin, d.Image())
			want(t, c, b.Generation(), b.Range("", ""))
		}
	}
}

// commitByChance is keys that go, and pairs that are set, of few keys and of many lengths.
func commitByChance(r *rand.Rand) ([]string, []api.Pair) {
	key := func() string { return []string{"", "a", "b", "ab", "\x00", "\xff\xff", "a\x00", "key"}[r.Intn(8)] }
	var gone []string
	var sets []api.Pair
	for range r.Intn(4) {
		gone = append(gone, key())
	}
	for range r.Intn(4) {
		sets = append(sets, api.Pair{Key: key(), Value: chance(r, r.Intn(r.Intn(90)+1))})
	}
	if r.Intn(40) == 0 {
		sets = append(sets, api.Pair{Key: "big", Value: chance(r, r.Intn(1200))})
	}
	return slices.Clip(gone), slices.Clip(sets)
}
