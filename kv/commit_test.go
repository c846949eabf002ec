package kv

import (
	"math"
	"math/rand"
	"slices"
	"strconv"
	"strings"
	"testing"

	"reef/api"
	"reef/sector"
)

// P8.3

func TestRange(t *testing.T) {
	d := sector.New(40)
	b := format(t, d, place{0, 40})
	all := pr("", "0", "\x00", "1", "a", "2", "a\x00", "3", "ab", "4", "b", "5", "\x7f", "6", "\x80", "7", "\xff", "8", "\xff\xff", "9")
	wantCommit(t, b, nil, append(all[5:], all[:5]...), api.OK)
	froms := []string{"", "\x00", "\x00\x00", "a", "a\x00", "aa", "ab", "abc", "b", "c", "\x7f", "\x80", "\xff", "\xff\x01", "\xff\xff", "\xff\xff\x00", "\xff\xff\xff"}
	all = pr("", "0", "\x00", "1", "a", "2", "a\x00", "3", "ab", "4", "b", "5", "\x7f", "6", "\x80", "7", "\xff", "8", "\xff\xff", "9")
	for _, from := range froms {
		for _, to := range froms {
			var l []api.Pair
			for _, p := range all {
				if p.Key >= from && (to == "" || p.Key < to) {
					l = append(l, p)
				}
			}
			if got := b.Range(from, to); !slices.Equal(got, l) {
				t.Fatalf("Range(%q, %q): %q; want %q", from, to, got, l)
			}
		}
	}
	if l := b.Range("b", "a"); len(l) > 0 {
		t.Fatalf("from behind to: %q", l)
	}
	if l := b.Range("a", "a"); len(l) > 0 {
		t.Fatalf("from to itself: %q", l)
	}
}

func TestRangeOfNone(t *testing.T) {
	b := format(t, sector.New(10), place{0, 10})
	for _, to := range []string{"", "a", "\xff"} {
		if l := b.Range("", to); len(l) > 0 {
			t.Fatalf("%q", l)
		}
	}
	wantGet(t, b, "", "", false)
	wantGet(t, b, "a", "", false)
}

// What is answered is new memory, and what is handed in is not kept, nor changed.
func TestListsOfTheirOwn(t *testing.T) {
	d := sector.New(20)
	b := format(t, d, place{0, 20})
	room := append(make([]api.Pair, 0, 9), pr("b", "2", "a", "1", "b", "3")...)
	room = append(room, pr("spare", "room")...)
	sets := room[:3]
	gone := []string{"z", "a", "y"}
	wantCommit(t, b, gone, sets, api.OK)
	if !slices.Equal(room, pr("b", "2", "a", "1", "b", "3", "spare", "room")) || !slices.Equal(gone, []string{"z", "a", "y"}) {
		t.Fatalf("what was handed in is changed: %q, %q", room, gone)
	}
	for i := range room {
		room[i] = api.Pair{Key: "no", Value: "no"}
	}
	want(t, b, 1, pr("a", "1", "b", "3"))
	for range 2 {
		l, k := b.Range("", ""), b.Range("b", "")
		l[0], k[0] = api.Pair{Key: "no"}, api.Pair{Value: "no"}
		_, _ = append(l[:1], l[0]), append(b.Range("", "b"), l[0])
		want(t, b, 1, pr("a", "1", "b", "3"))
	}
	wantTurn(t, b, api.OK)
	l := b.Range("", "")
	wantCommit(t, b, []string{"a"}, pr("b", "4"), api.OK)
	if !slices.Equal(l, pr("a", "1", "b", "3")) {
		t.Fatalf("a list of ahead is changed: %q", l)
	}
}

// P8.4

func TestCommit(t *testing.T) {
	d := sector.New(60)
	p := place{1, 58}
	b := format(t, d, p)
	recs := []string{checkpointBytes()}
	have := map[string]string{}
	for _, c := range []struct {
		gone []string
		sets []api.Pair
	}{
		{nil, pr("b", "2", "a", "1")}, // as they were handed in, not rising
		{nil, nil},
		{[]string{}, []api.Pair{}},
		{[]string{"x"}, nil}, // none is there
		{[]string{"a"}, nil},
		{[]string{"a", "a"}, nil},
		{nil, pr("a", "3", "a", "4", "c", "5", "a", "6")}, // the last one holds
		{[]string{"a"}, pr("a", "7")},                     // gone, and then set
		{[]string{"a", "b", "c"}, pr("b", "")},
		{[]string{""}, pr("", "")},
		{[]string{""}, nil},
		{[]string{"b", "", "b", "q"}, pr("", "e", "z", "9", "", "f")},
		{nil, pr("z", "9")}, // as it was
		{[]string{"z", ""}, pr("k", strings.Repeat("\x00\xff", 60))},
	} {
		wantCommit(t, b, c.gone, c.sets, api.OK)
		have = would(have, c.gone, c.sets)
		want(t, b, 1, listOf(have))
		recs = append(recs, commitBytes(c.gone, c.sets...))
		wantRecords(t, d, p, 1, 1, recs...)
		wantOpen(t, d, p, 1, listOf(have))
	}
	_, f := d.Writes()
	if f != 3+14 {
		t.Fatalf("%d flushes; want Format's, and one of each commit", f-3)
	}
}

func TestBytesOfAllKinds(t *testing.T) {
	var all []byte
	for c := range 256 {
		all = append(all, byte(c))
	}
	d := sector.New(400)
	p := place{0, 400}
	b := format(t, d, p)
	have := map[string]string{}
	for c := range 256 {
		one := string([]byte{byte(c)})
		sets := pr(one, one+one, one+one, "")
		wantCommit(t, b, nil, sets, api.OK)
		have = would(have, nil, sets)
	}
	sets := pr(string(all), string(all), "", string(all), checkpointBytes(), commitBytes(nil), headBytes(2, 1), recordSectors(9, "x")[0])
	wantCommit(t, b, nil, sets, api.OK)
	have = would(have, nil, sets)
	want(t, b, b.Generation(), listOf(have))
	wantOpen(t, d, p, b.Generation(), listOf(have))
	wantTurn(t, b, api.OK)
	wantOpen(t, d, p, b.Generation(), listOf(have))
}

// fill is a value that makes a commit of one pair of the key "k", and nothing gone, just so many bytes long.
func fill(t *testing.T, n int) string {
	t.Helper()
	for size := n; size >= 0; size-- {
		s := strings.Repeat("v", size)
		if len(commitBytes(nil, pr("k", s)...)) == n {
			return s
		}
	}
	t.Fatalf("no commit has %d bytes", n)
	return ""
}

func TestACommitThatHasJustTheRoom(t *testing.T) {
	for count := 8; count < 30; count++ {
		p := place{1, count}
		_, n := p.area(1)
		for ahead := range n - 1 {
			d := sector.New(count + 2)
			b := format(t, d, p)
			for range ahead {
				wantCommit(t, b, nil, pr("a", "1"), api.OK)
			}
			room := 55*(n-1-ahead) - 8
			image := d.Image()

			just := pr("k", fill(t, room))
			wantCommit(t, b, nil, just, api.OK)
			l := just
			if ahead > 0 {
				l = append(l, pr("a", "1")...)
			}
			want(t, b, 1, l)
			wantOpen(t, d, p, 1, l)
			recs := append([]string{checkpointBytes()}, slices.Repeat([]string{commitBytes(nil, pr("a", "1")...)}, ahead)...)
			wantRecords(t, d, p, 1, 1, append(recs, commitBytes(nil, just...))...)
			wantCommit(t, b, []string{"k"}, nil, api.OK) // no room for any: a new generation
			want(t, b, 2, l[1:])

			d = sector.Load(image)
			b = open(t, d, p)
			more := pr("k", fill(t, room)+"v")
			wantCommit(t, b, nil, more, api.OK)
			l[0] = more[0]
			want(t, b, 2, l)
			wantOpen(t, d, p, 2, l)
			wantRecords(t, d, p, 2, int64(2+ahead), checkpointBytes(listOf(would(map[string]string{}, nil, l))...))
		}
	}
}

// Behind the first generation that was begun by a commit: what is where, and in which order.
func TestACommitThatBeginsAGeneration(t *testing.T) {
	big := strings.Repeat("x", 100)
	d := sector.New(12)
	p := place{1, 10}
	b := format(t, d, p)
	wantCommit(t, b, nil, pr("b", big), api.OK) // record 2, of two sectors; one is left
	image := d.Image()
	wantCommit(t, b, []string{"x"}, pr("c", "3", "a", big[:40]), api.OK) // the generation 2, record 3
	all := pr("a", big[:40], "b", big, "c", "3")
	want(t, b, 2, all)
	lay := func(k int, l ...string) {
		for i, s := range l {
			copy(image[size*(k+i):], s)
		}
	}
	lay(3, recordSectors(3, checkpointBytes(all...))...)
	lay(1, headBytes(2, 3))
	wantLaid(t, d, image)
	wantOpen(t, d, p, 2, all)
	wantCommit(t, b, nil, pr("c", "4"), api.OK) // record 4, behind it
	lay(6, recordSectors(4, commitBytes(nil, pr("c", "4")...))...)
	wantLaid(t, d, image)
	wantCommit(t, b, []string{"b"}, pr("d", big), api.OK) // the generation 3, record 5, over what the generation 1 had
	all = pr("a", big[:40], "c", "4", "d", big)
	lay(7, recordSectors(5, checkpointBytes(all...))...)
	lay(2, headBytes(3, 5))
	wantLaid(t, d, image)
	want(t, b, 3, all)
	wantOpen(t, d, p, 3, all)
}

func TestNoSpace(t *testing.T) {
	big := strings.Repeat("y", 300)
	d := sector.New(10)
	b := format(t, d, ten)
	wantCommit(t, b, nil, pr("a", "1"), api.OK)
	for range 3 {
		wantSilent(t, d, func() { wantCommit(t, b, []string{"a"}, pr("b", big), api.ErrSpace) })
		want(t, b, 1, pr("a", "1"))
		wantOpen(t, d, ten, 1, pr("a", "1"))
	}
	wantCommit(t, b, nil, pr("b", "2"), api.OK) // it goes on where it was
	wantRecords(t, d, ten, 1, 1, checkpointBytes(), commitBytes(nil, pr("a", "1")...), commitBytes(nil, pr("b", "2")...))
	wantTurn(t, b, api.OK)
	wantSilent(t, d, func() { wantCommit(t, b, nil, pr("b", big), api.ErrSpace) })
	want(t, b, 2, pr("a", "1", "b", "2"))
	wantCommit(t, b, []string{"a"}, nil, api.OK)
	wantOpen(t, d, ten, 2, pr("b", "2"))
}

// The checkpoint of what would be has just an area's bytes, and one more; what a commit has itself does not count then.
func TestACheckpointThatFitsJust(t *testing.T) {
	for count := 6; count < 30; count++ {
		p := place{0, count}
		_, n := p.area(1)
		d := sector.New(count)
		b := format(t, d, p)
		most := 55*n - 8
		v := ""
		for len(checkpointBytes(pr("k", v)...)) < most {
			v += "v"
		}
		if len(checkpointBytes(pr("k", v)...)) > most { // where the length takes a byte more, just there
			continue
		}
		wantSilent(t, d, func() { wantCommit(t, b, nil, pr("k", v+"v"), api.ErrSpace) })
		want(t, b, 1, nil)
		wantCommit(t, b, slices.Repeat([]string{"nothing"}, 100), pr("k", strings.Repeat("over", 500), "k", v), api.OK)
		want(t, b, 2, pr("k", v))
		wantOpen(t, d, p, 2, pr("k", v))
		wantCommit(t, b, nil, nil, api.OK) // no room is left
		want(t, b, 3, pr("k", v))
		wantSilent(t, d, func() { wantCommit(t, b, nil, pr("", ""), api.ErrSpace) })
		wantTurn(t, b, api.OK)
		wantCommit(t, b, []string{"k"}, nil, api.OK)
		wantOpen(t, d, p, 5, nil)
	}
}

// Of a row of 6 sectors an area has 2: 102 bytes.
func TestTheLeastRow(t *testing.T) {
	for _, p := range []place{{0, 6}, {0, 7}, {1, 6}} {
		d := sector.New(8)
		b := format(t, d, p)
		v := strings.Repeat("v", 102-5)
		wantCommit(t, b, nil, pr("k", v+"v"), api.ErrSpace)
		wantCommit(t, b, nil, pr("k", v), api.OK)
		want(t, b, 2, pr("k", v))
		wantCommit(t, b, []string{"k"}, pr("l", v), api.OK)
		want(t, b, 3, pr("l", v))
		wantOpen(t, d, p, 3, pr("l", v))
		last := d.Image()[size*7:]
		if p.from+p.count == 7 && string(last) != padded(nil) {
			t.Fatal("something is written behind the row")
		}
	}
}

// A sector of an odd count is nobody's.
func TestTheOddSector(t *testing.T) {
	p := place{0, 11}
	d := sector.New(11)
	b := format(t, d, p)
	write(t, d, 10, strings.Repeat("\xee", size))
	for i := range 40 {
		wantCommit(t, b, nil, pr("k", strings.Repeat("v", 5*i)), api.OK)
	}
	if sectorOf(d.Image(), 10) != strings.Repeat("\xee", size) || b.Generation() < 3 {
		t.Fatal("it was written, or no generation was begun")
	}
	wantOpen(t, d, p, b.Generation(), pr("k", strings.Repeat("v", 195)))
}

func TestManyPairsAtOnce(t *testing.T) {
	var gone []string
	var sets []api.Pair
	r := rand.New(rand.NewSource(83))
	for range 200000 {
		gone = append(gone, strconv.Itoa(r.Intn(1000000)))
		sets = append(sets, api.Pair{Key: strconv.Itoa(r.Intn(1000000)), Value: "1"})
	}
	d := sector.New(api.MaxSectors)
	b := format(t, d, place{0, api.MaxSectors})
	wantCommit(t, b, gone, sets, api.ErrSpace)
	want(t, b, 1, nil)
	have := would(map[string]string{}, gone[:9000], sets[:9000])
	wantCommit(t, b, gone[:9000], sets[:9000], api.OK)
	want(t, b, 2, listOf(have)) // with those that go it is more than an area, without them it is not
	have = would(have, gone[:200], sets[9000:9100])
	wantCommit(t, b, gone[:200], sets[9000:9100], api.OK)
	want(t, b, 2, listOf(have))
	wantOpen(t, d, place{0, api.MaxSectors}, 2, listOf(have))
}

// Numbers come to their end: where no record may be appended any more, a commit begins a generation, for which there is no number either.
func TestTheLastNumbers(t *testing.T) {
	d := forged(t, 10, ten, 1, 1<<62-1, checkpointBytes(pr("a", "1")...))
	b := wantOpen(t, d, ten, 1, pr("a", "1"))
	wantCommit(t, b, nil, pr("b", "2"), api.OK) // the number 2^62
	want(t, b, 1, pr("a", "1", "b", "2"))
	wantSilent(t, d, func() { wantCommit(t, b, nil, pr("c", "3"), api.ErrDead) })
	want(t, b, 1, pr("a", "1", "b", "2"))
	b = wantOpen(t, d, ten, 1, pr("a", "1", "b", "2"))
	wantSilent(t, d, func() { wantTurn(t, b, api.ErrDead) })
	want(t, b, 1, pr("a", "1", "b", "2"))

	d = forged(t, 10, ten, 1, 1<<62-2, checkpointBytes(pr("a", "1")...))
	b = open(t, d, ten)
	wantTurn(t, b, api.OK)
	wantCommit(t, b, nil, pr("b", "2"), api.OK)
	wantOpen(t, d, ten, 2, pr("a", "1", "b", "2"))

	d = forged(t, 10, ten, 1, 5, checkpointBytes(pr("a", "1")...))
	write(t, d, 5, recordSectors(1<<62, "left over")...) // in the other area the last number was used
	b = open(t, d, ten)
	wantSilent(t, d, func() { wantTurn(t, b, api.ErrSpace) })
	wantSilent(t, d, func() { wantCommit(t, b, nil, pr("b", strings.Repeat("2", 151)), api.ErrSpace) })
	wantCommit(t, b, nil, pr("b", "2"), api.OK)
	want(t, b, 1, pr("a", "1", "b", "2"))
}

// No number of the other area is used again, also where the current one's are less.
func TestNumbersOfTheOtherArea(t *testing.T) {
	d := forged(t, 10, ten, 1, 5, checkpointBytes(pr("a", "1")...))
	write(t, d, 5, recordSectors(40, strings.Repeat("left over", 7))[1])
	b := open(t, d, ten)
	wantTurn(t, b, api.OK)
	wantRecords(t, d, ten, 2, 41, checkpointBytes(pr("a", "1")...))
	if sectorOf(d.Image(), 0) != headBytes(2, 41) {
		t.Fatalf("head %x", sectorOf(d.Image(), 0))
	}
	wantTurn(t, b, api.OK)
	if sectorOf(d.Image(), 1) != headBytes(3, 42) {
		t.Fatalf("head %x", sectorOf(d.Image(), 1))
	}
	wantOpen(t, d, ten, 3, pr("a", "1"))
}

// Behind the last generation there is none: its head would not stand, so nothing may be told to be there.
func TestTheLastGeneration(t *testing.T) {
	d := forged(t, 10, ten, 1<<62-1, 5, checkpointBytes(pr("a", "1")...))
	b := open(t, d, ten)
	wantTurn(t, b, api.OK)
	wantOpen(t, d, ten, 1<<62, pr("a", "1"))
	wantCommit(t, b, nil, pr("b", "2"), api.OK)
	wantSilent(t, d, func() { wantTurn(t, b, api.ErrDead) })
	want(t, b, 1<<62, pr("a", "1", "b", "2"))
	wantCommit(t, b, nil, nil, api.ErrDead)
	b = wantOpen(t, d, ten, 1<<62, pr("a", "1", "b", "2"))
	wantCommit(t, b, nil, pr("c", "3"), api.OK)
	wantCommit(t, b, nil, pr("d", strings.Repeat("4", 100)), api.ErrDead)
	wantOpen(t, d, ten, 1<<62, pr("a", "1", "b", "2", "c", "3"))
}

// P8.5

func TestTurn(t *testing.T) {
	d := sector.New(16)
	p := place{1, 14}
	b := format(t, d, p)
	wantCommit(t, b, nil, pr("b", "2", "a", strings.Repeat("1", 60)), api.OK)
	all := pr("a", strings.Repeat("1", 60), "b", "2")
	for g := int64(2); g < 9; g++ {
		writes, flushes := d.Writes()
		wantTurn(t, b, api.OK)
		if w, f := d.Writes(); w != writes+3 || f != flushes+2 {
			t.Fatalf("%d writes, %d flushes", w-writes, f-flushes)
		}
		want(t, b, g, all)
		wantOpen(t, d, p, g, all)
		wantRecords(t, d, p, g, g+1, checkpointBytes(all...))
		if s := sectorOf(d.Image(), p.headAt(g)); s != headBytes(g, g+1) {
			t.Fatalf("head %x", s)
		}
	}
	wantCommit(t, b, []string{"b"}, nil, api.OK)
	want(t, b, 8, all[:1])
	wantTurn(t, b, api.OK)
	wantRecords(t, d, p, 9, 11, checkpointBytes(all[:1]...))
	wantOpen(t, d, p, 9, all[:1])
}

func TestTurnOfNone(t *testing.T) {
	d := sector.New(6)
	b := format(t, d, place{0, 6})
	for g := int64(2); g < 20; g++ {
		wantTurn(t, b, api.OK)
		wantOpen(t, d, place{0, 6}, g, nil)
	}
}

// What the commits of an area came to fits into the other one, also where they left no room.
func TestTurnOfAFullArea(t *testing.T) {
	d := sector.New(10)
	b := format(t, d, ten)
	v := fill(t, 47+55*2)
	wantCommit(t, b, nil, pr("k", v), api.OK)
	want(t, b, 1, pr("k", v))
	wantTurn(t, b, api.OK)
	wantOpen(t, d, ten, 2, pr("k", v))
}

// P8.4, P8.5: without power, and behind it

func TestWithoutPower(t *testing.T) {
	for _, do := range []func(*DB) api.Errno{
		func(b *DB) api.Errno { return b.Commit(nil, nil) },
		func(b *DB) api.Errno { return b.Commit(nil, pr("k", strings.Repeat("v", 500))) }, // the first error is the answer
		func(b *DB) api.Errno { return b.Commit(nil, pr("k", strings.Repeat("v", 9999))) },
		(*DB).Turn,
	} {
		d := sector.New(20)
		b := format(t, d, place{0, 20})
		wantCommit(t, b, nil, pr("a", "1"), api.OK)
		d.Lose(0)
		want(t, b, 1, pr("a", "1"))
		d.On()
		wantCommit(t, b, nil, pr("b", "2"), api.OK) // the power went between two calls: nothing was lost
		d.Lose(math.MaxUint64)
		if e := do(b); e != api.ErrDead {
			t.Fatalf("%v", e)
		}
		d.On()
		wantNoUse(t, d, b, 1, pr("a", "1", "b", "2"))
		wantOpen(t, d, place{0, 20}, 1, pr("a", "1", "b", "2"))
	}
}

// wantNoUse asks of a DB that told ErrDead that it goes on telling it, and what it had.
func wantNoUse(t testing.TB, d *sector.Device, b *DB, g int64, l []api.Pair) {
	t.Helper()
	for range 2 {
		wantSilent(t, d, func() {
			wantCommit(t, b, nil, nil, api.ErrDead)
			wantCommit(t, b, nil, pr("z", "z"), api.ErrDead)
			wantCommit(t, b, nil, pr("z", strings.Repeat("z", 9999)), api.ErrDead)
			wantTurn(t, b, api.ErrDead)
		})
		want(t, b, g, l)
	}
}

// 'Functions'

func TestADBThatNeitherGave(t *testing.T) {
	x, _ := Format(nil, 0, 6)
	y, _ := Open(sector.New(10), 0, 10)
	for _, b := range []*DB{nil, {}, new(DB), x, y} {
		for range 2 {
			wantCommit(t, b, nil, nil, api.ErrDead)
			wantCommit(t, b, []string{"a"}, pr("a", "1"), api.ErrDead)
			wantTurn(t, b, api.ErrDead)
			want(t, b, 0, nil)
			wantGet(t, b, "", "", false)
			wantGet(t, b, "a", "", false)
			for _, to := range []string{"", "a"} {
				if len(b.Range("", to)) > 0 || len(b.Range("b", to)) > 0 {
					t.Fatal("a list is not empty")
				}
			}
		}
	}
}
