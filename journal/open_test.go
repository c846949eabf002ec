package journal

import (
	"math"
	"math/rand"
	"slices"
	"strings"
	"testing"

	"reef/api"
	"reef/sector"
)

// P7.2

func TestOpenOfSectorsThatAreNot(t *testing.T) {
	for _, c := range [][2]int{
		{-1, 1}, {-1, 2}, {-2, 8}, {math.MinInt, 1}, {math.MinInt, math.MaxInt}, {-1, math.MaxInt},
		{0, 0}, {0, -1}, {4, 0}, {4, -2}, {8, 0}, {8, -1}, {0, math.MinInt}, {math.MaxInt, math.MinInt},
		{0, 9}, {1, 8}, {7, 2}, {8, 1}, {9, 1}, {100, 1},
		{math.MaxInt, 1}, {1, math.MaxInt}, {math.MaxInt, math.MaxInt}, {math.MaxInt - 1, 8},
	} {
		wantNoOpen(t, sector.New(8), c[0], c[1], 1, api.ErrNumber)
	}
	for _, c := range [][2]int{{0, 1}, {0, 8}, {7, 1}, {1, 7}, {3, 2}} {
		wantNext(t, wantOpen(t, sector.New(8), c[0], c[1], 1), 1, 55*c[1]-8)
	}
	full := sector.New(api.MaxSectors)
	wantNext(t, wantOpen(t, full, 0, api.MaxSectors, 1), 1, 55*api.MaxSectors-8)
	wantNoOpen(t, full, 0, api.MaxSectors+1, 1, api.ErrNumber)
	wantNoOpen(t, full, 1, api.MaxSectors, 1, api.ErrNumber)
}

func TestOpenOfNoDevice(t *testing.T) {
	for _, d := range []*sector.Device{nil, {}, sector.New(0), sector.New(api.MaxSectors + 1)} {
		wantNoOpen(t, d, 0, 1, 1, api.ErrNumber)
		wantNoOpen(t, d, 0, 0, 1, api.ErrNumber)
	}
}

func TestOpenFromNumbersThatAreNone(t *testing.T) {
	for _, first := range []int64{0, -1, math.MinInt64, 1<<62 + 1, math.MaxInt64} {
		wantNoOpen(t, sector.New(8), 0, 8, first, api.ErrNumber)
	}
	for _, first := range []int64{1, 2, 1 << 31, 1<<62 - 1, 1 << 62} {
		wantNext(t, wantOpen(t, sector.New(8), 0, 8, first), first, 432)
	}
}

func TestOpenWithoutPower(t *testing.T) {
	d := deviceOf(4, 0, whole(1, "a")...)
	d.Lose(0)
	wantNoOpen(t, d, 0, 4, 1, api.ErrDead)
	wantNoOpen(t, d, 0, 5, 1, api.ErrNumber) // the first error is the answer
	wantNoOpen(t, d, -1, 4, 1, api.ErrNumber)
	wantNoOpen(t, d, 0, 0, 1, api.ErrNumber)
	wantNoOpen(t, d, 0, 4, 0, api.ErrNumber)
	d.On()
	wantOpen(t, d, 0, 4, 1, "a")
}

func TestOpenReadsOnly(t *testing.T) {
	d := deviceOf(6, 1, whole(1, letters(60))...)
	for i, s := range whole(2, "b") { // in the cache, as a sector's last write
		d.Write(3+i, []byte(s))
	}
	image, dirty := d.Image(), d.Dirty()
	wantOpen(t, d, 1, 5, 1, letters(60), "b")
	writes, flushes := d.Writes()
	if string(image) != string(d.Image()) || !slices.Equal(dirty, d.Dirty()) || writes != 1 || flushes != 0 {
		t.Fatalf("behind Open: dirty %d, %d writes, %d flushes", d.Dirty(), writes, flushes)
	}
}

func TestOpenTellsWhatStands(t *testing.T) {
	for from := range 3 {
		for _, numbers := range [][]int64{{1}, {1, 2, 3}, {5, 9, 1000}, {1 << 40, 1<<62 - 1}, {255, 256, 257}} {
			var l, want []string
			for i, n := range numbers {
				want = append(want, letters(50*i))
				l = append(l, whole(n, want[i])...)
			}
			d := deviceOf(12, from, l...)
			last := numbers[len(numbers)-1]
			for _, first := range []int64{1, (numbers[0] + 1) / 2, numbers[0]} {
				j := wantOpen(t, d, from, 9, first, want...)
				wantNext(t, j, last+1, 55*(9-len(l))-8)
			}
			wantNext(t, wantOpen(t, d, from, 9, numbers[0]+1), last+1, 55*9-8)
			wantNext(t, wantOpen(t, d, from, 9, 1<<62), 1<<62, 55*9-8)
		}
	}
}

// wantEnded asks that of a whole record, what stands behind it, and one more whole one, only the first stands.
func wantEnded(t *testing.T, why string, behind ...string) {
	t.Helper()
	l := append(whole(5, "a"), behind...)
	l = append(l, whole(9, "b")...)
	d := deviceOf(8, 0, l...)
	if _, got := open(t, d, 0, 8, 3); !slices.Equal(got, []string{"a"}) {
		t.Fatalf("%s: %.20q; want %q", why, got, []string{"a"})
	}
}

func TestWhatEndsThem(t *testing.T) {
	rec := letters(100)
	good := headOf(7, rec)
	with := func(change func(h *head)) []string {
		h := good
		change(&h)
		return sectorsOf(h, rec)
	}
	for mark := range 256 {
		if mark != 1 {
			wantEnded(t, "it does not begin with 1", with(func(h *head) { h.mark = byte(mark) })...)
		}
	}
	for _, n := range []int64{0, -1, math.MinInt64, math.MinInt64 + 7, 1<<62 + 1, 1<<62 + 7, math.MaxInt64} {
		wantEnded(t, "its number is none", whole(n, rec)...)
		wantEnded(t, "its number is none", whole(n, "")...)
	}
	for _, n := range []int64{1, 2, 3, 4, 5} {
		wantEnded(t, "its number does not rise", whole(n, rec)...)
	}
	for _, n := range []uint64{6, 8, 7 << 8, 7 | 1<<32, 1 << 62} {
		wantEnded(t, "it has another number", with(func(h *head) { h.number = n })...)
	}
	for bit := range 32 {
		wantEnded(t, "its sum is another one", with(func(h *head) { h.sum ^= 1 << bit })...)
		wantEnded(t, "it has another length", with(func(h *head) { h.count ^= 1 << bit })...)
	}
	wantEnded(t, "its sum is 0", with(func(h *head) { h.sum = 0 })...)
	wantEnded(t, "nothing stands there", padded(nil))
	wantOpen(t, deviceOf(4, 0, with(func(*head) {})...), 0, 4, 3, rec) // unchanged it stands
}

func TestWhatEndsThemWithin(t *testing.T) {
	rec := letters(47 + 55 + 55 + 1)
	for k := 1; k < 4; k++ {
		replaced := func(s string) []string {
			l := whole(7, rec)
			l[k] = s
			return l
		}
		s := whole(7, rec)[k]
		for mark := range 256 {
			if mark != 2 {
				wantEnded(t, "one of its other sectors does not begin with 2", replaced(string([]byte{byte(mark)})+s[1:])...)
			}
		}
		for _, n := range []uint64{0, 1, 5, 6, 8, 9, 7 << 8, 7 | 1<<63, 1<<62 + 1} {
			wantEnded(t, "one of its other sectors has another number", replaced(tail(2, n, s[9:]))...)
		}
		wantEnded(t, "one of its sectors was not laid down", replaced(padded(nil))...)
		wantEnded(t, "one of its sectors is another one's", replaced(whole(7, rec)[k%3+1])...)
		l := whole(7, rec)
		wantEnded(t, "one of its sectors lacks", append(l[:k:k], l[k+1:]...)...)
		wantEnded(t, "it is cut off", l[:k]...)
	}
}

// A sum is of the number, of the length and of the bytes, of each bit of them, and of nothing else.
func TestSumOfWhichBytes(t *testing.T) {
	rec := letters(70)
	b := []byte(strings.Join(whole(7, rec), ""))
	inside := func(i int) bool { // of the sum's bytes, or what is to be held against it
		return i < 17+47 || i >= size && i < size+9+23
	}
	for bit := range 8 * len(b) {
		c := slices.Clone(b)
		c[bit/8] ^= 1 << (bit % 8)
		_, l := open(t, sector.Load(c), 0, 2, 1)
		if stands := len(l) == 1 && l[0] == rec; stands == inside(bit/8) || len(l) > 1 {
			t.Fatalf("bit %d of byte %d turned: %.20q", bit%8, bit/8, l)
		}
	}
}

func TestOpenOfARecordBeyondTheRow(t *testing.T) {
	for n := range 4 {
		rec := letters(47 + 55*n)
		d := deviceOf(9, 2, append(whole(1, "a"), whole(2, rec)...)...)
		wantOpen(t, d, 2, n+2, 1, "a", rec)
		for short := 1; short < n+2; short++ { // all of it stands on the device, but not in the row
			j := wantOpen(t, d, 2, short, 1, "a")
			if short == 1 {
				wantNext(t, j, 2, -1)
			} else {
				wantNext(t, j, 3, 55*(short-1)-8)
			}
		}
	}
	h := headOf(2, "")
	for _, count := range []uint32{48, 1 << 16, 1 << 31, math.MaxUint32} {
		h.count = count
		wantOpen(t, deviceOf(2, 0, append(whole(1, "a"), sectorsOf(h, "")...)...), 0, 2, 1, "a")
	}
}

func TestOpenAheadOfTheRow(t *testing.T) {
	d := deviceOf(6, 0, slices.Concat(whole(1, "a"), whole(2, "b"), whole(3, letters(60)), whole(4, "c"))...)
	wantOpen(t, d, 0, 6, 1, "a", "b", letters(60), "c")
	wantOpen(t, d, 1, 5, 1, "b", letters(60), "c")
	wantOpen(t, d, 2, 4, 1, letters(60), "c")
	wantOpen(t, d, 3, 3, 1) // within a record
	wantNext(t, wantOpen(t, d, 1, 1, 1, "b"), 3, -1)
	wantNext(t, wantOpen(t, d, 3, 1, 1), 4, 47)
}

func TestTheGreatestNumber(t *testing.T) {
	for _, c := range []struct {
		sector string
		next   int64
	}{
		{tail(1, 40, ""), 41},
		{tail(2, 40, "x"), 41},
		{tail(1, 1, ""), 4},
		{tail(2, 2, ""), 4},
		{tail(1, 3, ""), 4},
		{tail(2, 1<<62, ""), 1<<62 + 1},
		{tail(1, 1<<62, ""), 1<<62 + 1},
		{tail(1, 1<<62-1, ""), 1 << 62},
		{tail(1, 0x0102030405060708, ""), 0x0102030405060709},
		{tail(0, 40, ""), 4},
		{tail(3, 40, ""), 4},
		{tail(255, 40, ""), 4},
		{tail(1, 0, ""), 4},
		{tail(1, 1<<62+1, ""), 4},
		{tail(2, 1<<63-1, ""), 4},
		{tail(2, 1<<63, ""), 4},
		{tail(1, 1<<63+40, ""), 4},
		{tail(2, math.MaxUint64, ""), 4},
		{strings.Repeat("\xff", size), 4},
	} {
		for k := 1; k < 5; k++ {
			d := deviceOf(8, 1, whole(3, "a")...)
			d.Write(1+k, []byte(c.sector))
			if k == 4 { // behind the row
				c.next = 4
			}
			room := 55*3 - 8
			if c.next > 1<<62 {
				room = -1
			}
			wantNext(t, wantOpen(t, d, 1, 4, 2, "a"), c.next, room)
			wantNext(t, wantOpen(t, d, 1, 4, 4), c.next, roomByWords(4, c.next))
		}
		d := deviceOf(8, 1, whole(3, "a")...)
		d.Write(0, []byte(c.sector)) // ahead of the row
		wantNext(t, wantOpen(t, d, 1, 4, 2, "a"), 4, 55*3-8)
	}
}

func TestTheNextNumberIsFirstAtLeast(t *testing.T) {
	d := deviceOf(4, 0, whole(3, "a")...)
	for first := int64(1); first < 10; first++ {
		j, _ := open(t, d, 0, 4, first)
		if want := max(4, first); j.Next() != want {
			t.Fatalf("Open from %d: Next %d; want %d", first, j.Next(), want)
		}
	}
}

// oddRow is sectors by chance: records whole, cut and changed, of numbers near one another, and others.
func oddRow(r *rand.Rand) []string {
	var l []string
	n := int64(r.Intn(5)) - 1
	if r.Intn(8) == 0 {
		n = 1<<62 - int64(r.Intn(3))
	}
	for len(l) < 12 {
		n += int64(r.Intn(7)+1) / 3 * int64(1-r.Intn(12)/11*2)
		x := whole(n, text(r, r.Intn(130)))
		switch r.Intn(12) {
		case 0:
			x = x[:r.Intn(len(x))]
		case 1:
			x = x[r.Intn(len(x)):]
		case 2:
			k := r.Intn(len(x))
			b := []byte(x[k])
			b[r.Intn([]int{9, 17, size}[r.Intn(3)])] ^= 1 << r.Intn(8)
			x[k] = string(b)
		case 3:
			x[r.Intn(len(x))] = tail(byte(r.Intn(4)), uint64(n), text(r, 55))
		}
		l = append(l, x...)
	}
	return l
}

func TestOpenByWords(t *testing.T) {
	r := rand.New(rand.NewSource(71))
	for range 30000 {
		l := oddRow(r)
		count := 1 + r.Intn(12)
		from := r.Intn(3)
		d := deviceOf(len(l)+from, from, l...)
		first := 1 + int64(r.Intn(6))
		if r.Intn(8) == 0 {
			first = 1<<62 - int64(r.Intn(4))
		}
		want, taken, next := readByWords(l[:count], first)
		j := wantOpen(t, d, from, count, first, want...)
		wantNext(t, j, next, roomByWords(count-taken, next))
		if j.Room() >= 0 {
			rec := text(r, r.Intn(j.Room()+1))
			wantAppend(t, j, rec, api.OK)
			wantLaid(t, d, from, slices.Concat(l[:taken], whole(next, rec), l[taken+needByWords(len(rec)):])...)
			wantOpen(t, d, from, count, first, append(want, rec)...)
		}
	}
}
