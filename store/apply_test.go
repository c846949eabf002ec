package store

import (
	"slices"
	"strings"
	"testing"

	"reef/api"
	"reef/journal"
	"reef/sector"
)

// P10.6

func TestTheChaptersExamples(t *testing.T) {
	d := sector.New(20)
	s := format(t, d, 10)
	wantFree(t, s, 10)
	m := wantDone(t, d, s, empty(10), sets("a", body(100, 1), "b", "x"))
	wantWhere(t, s, "a", 0, 2)
	wantFree(t, s, 8)
	m = wantDone(t, d, s, m, sets("a", body(70, 2)))
	wantWhere(t, s, "a", 2, 2)
	wantFree(t, s, 8)
	wantSilent(t, d, func() { wantApply(t, s, sets("c", body(641, 3)), api.ErrSpace) })
	want(t, s, m)
	wantApply(t, s, sets("c", body(65, 3)), api.OK)
	wantWhere(t, s, "c", 0, 2)
}

// Of one name the last change holds, whatever the others were, and as if they were not there.
func TestOneNameOftenInOneApply(t *testing.T) {
	one, two, short := body(100, 1), body(300, 2), "s"
	for _, ahead := range [][]api.Put{nil, sets("k", "old"), sets("k", body(200, 9)), sets("a", body(65, 8), "z", body(65, 7))} {
		for _, c := range []struct {
			l    []api.Put
			last api.Put
		}{
			{slices.Concat(sets("k", one), sets("k", two)), sets("k", two)[0]},
			{slices.Concat(sets("k", two), sets("k", one)), sets("k", one)[0]},
			{slices.Concat(sets("k", one), sets("k", one)), sets("k", one)[0]},
			{slices.Concat(sets("k", one), sets("k", short)), sets("k", short)[0]},
			{slices.Concat(sets("k", short), sets("k", one)), sets("k", one)[0]},
			{slices.Concat(sets("k", one), goes("k")), goes("k")[0]},
			{slices.Concat(sets("k", short), goes("k")), goes("k")[0]},
			{slices.Concat(goes("k"), sets("k", one)), sets("k", one)[0]},
			{slices.Concat(goes("k"), sets("k", short)), sets("k", short)[0]},
			{slices.Concat(goes("k"), sets("k", two), goes("k")), goes("k")[0]},
			{slices.Concat(sets("k", one), goes("k"), sets("k", two)), sets("k", two)[0]},
			{goes("k", "k", "k"), goes("k")[0]},
			{slices.Concat(sets("k", body(10000, 3)), sets("k", short)), sets("k", short)[0]}, // what would not fit does not count
			{slices.Concat(sets("k", body(10000, 3)), goes("k")), goes("k")[0]},
			{[]api.Put{{Name: "k", Value: one}, {Name: "k", Value: body(10000, 3), Gone: true}}, goes("k")[0]},
		} {
			d, twin := sector.New(60), sector.New(60)
			s, o := format(t, d, 40), format(t, twin, 40)
			m := wantDone(t, d, s, empty(20), ahead)
			wantApply(t, o, ahead, api.OK)
			wantDone(t, d, s, m, c.l)
			wantApply(t, o, []api.Put{c.last}, api.OK)
			wantAlike(t, d, twin)
		}
	}
}

// The order in which changes of unlike names stand plays no part.
func TestOrderOfNames(t *testing.T) {
	l := slices.Concat(sets("b", body(100, 1), "a", body(200, 2), "", body(65, 3), "c", "3"), goes("old", "none"))
	for i := range 24 {
		d, twin := sector.New(60), sector.New(60)
		s, o := format(t, d, 40), format(t, twin, 40)
		turned := slices.Concat(l[i%6:], l[:i%6])
		if i > 11 {
			slices.Reverse(turned)
		}
		turned[0], turned[i%6] = turned[i%6], turned[0]
		m := empty(20)
		for _, ahead := range [][]api.Put{sets("old", "1"), sets("b", body(64, 4))} {
			m = wantDone(t, d, s, m, ahead)
			wantApply(t, o, ahead, api.OK)
		}
		wantDone(t, d, s, m, turned)
		wantApply(t, o, l, api.OK)
		wantAlike(t, d, twin)
		wantWhere(t, s, "", 0, 2)
		wantWhere(t, s, "a", 2, 4)
		wantWhere(t, s, "b", 6, 2)
	}
}

// commits is the texts of the records behind the first generation's checkpoint.
func commits(t *testing.T, d *sector.Device, head int) []string {
	t.Helper()
	n := (head - 2) / 2
	_, l, e := journal.Open(d, 2+n, n, 1)
	if e != api.OK || len(l) == 0 {
		t.Fatalf("the keys' journal: %v", e)
	}
	return l[1:]
}

// commit is a commit's record, by chapter 8.
func commit(gone []string, l ...api.Pair) string {
	s := "\x02" + num(uint64(len(gone)))
	for _, key := range gone {
		s += txt(key)
	}
	s += num(uint64(len(l)))
	for _, p := range l {
		s += txt(p.Key) + txt(p.Value)
	}
	return s
}

// What an Apply commits: of the names that go those that are there, rising, and the pairs that are set, rising.
func TestWhatIsCommitted(t *testing.T) {
	d := sector.New(100)
	s := format(t, d, 80)
	long := body(129, 1)
	var recs []string
	for _, c := range []struct {
		l   []api.Put
		rec string
	}{
		{sets("b", "2", "a", "1"), commit(nil, pr("a", shortBytes("1"), "b", shortBytes("2"))...)},
		{nil, commit(nil)}, // a commit of nothing is one, too
		{[]api.Put{}, commit(nil)},
		{goes("none"), commit(nil)},
		{goes("none", "b", "a", "", "b"), commit([]string{"a", "b"})},
		{goes("a"), commit(nil)}, // it went
		{sets("k", long, "", ""), commit(nil, pr("", shortBytes(""), "k", longBytes(129, 0, 3))...)},
		{sets("k", long), commit(nil, pr("k", longBytes(129, 3, 3))...)}, // the same value anew
		{slices.Concat(sets("z", "9"), goes("k", "none"), sets("a", body(65, 2)), goes("")), commit([]string{"", "k"}, pr("a", longBytes(65, 0, 2), "z", shortBytes("9"))...)},
		{slices.Concat(goes("a"), sets("none", "1"), goes("none")), commit([]string{"a"})},
		{slices.Concat(goes("q", "z"), sets("q", "1")), commit([]string{"z"}, pr("q", shortBytes("1"))...)},
	} {
		wantApply(t, s, c.l, api.OK)
		recs = append(recs, c.rec)
		if got := commits(t, d, 80); !slices.Equal(got, recs) {
			t.Fatalf("%.60v: committed %.80q; want %.80q", c.l, got[len(got)-1], c.rec)
		}
	}
}

// How often an Apply writes and flushes: each sector once, one flush for all of them, and none where nothing is long.
func TestWritesAndFlushes(t *testing.T) {
	d := sector.New(100)
	s := format(t, d, 60)
	for _, c := range []struct {
		l               []api.Put
		writes, flushes int
	}{
		{nil, 1, 1},
		{sets("a", "1", "b", "2"), 1, 1},
		{sets("a", body(64, 1)), 2, 1}, // a record of two sectors
		{sets("a", body(65, 1)), 2 + 1, 2},
		{sets("a", body(640, 1), "b", body(65, 2), "c", "3"), 12 + 1, 2},
		{goes("a", "b"), 1, 1},
	} {
		writes, flushes := d.Writes()
		wantApply(t, s, c.l, api.OK)
		if w, f := d.Writes(); w-writes != c.writes || f-flushes != c.flushes {
			t.Fatalf("%.40v: %d writes, %d flushes; want %d, %d", c.l, w-writes, f-flushes, c.writes, c.flushes)
		}
	}
}

func TestANameThatIsNotThereGoes(t *testing.T) {
	d := sector.New(60)
	s := format(t, d, 50)
	m := wantDone(t, d, s, empty(10), goes("a", ""))
	m = wantDone(t, d, s, m, sets("a", body(65, 1), "b", "2"))
	m = wantDone(t, d, s, m, goes("c", "aa", ""))
	wantFree(t, s, 8)
	m = wantDone(t, d, s, m, goes("a", "a"))
	wantFree(t, s, 10)
	wantDone(t, d, s, m, goes("a"))
	wantFree(t, s, 10)
}

// gap is a store of which, of 10 data sectors, those at 0, 2 to 3, and 7 to 9 are free.
func gap(t *testing.T) (*sector.Device, *Store, model) {
	t.Helper()
	d := forged(t, 60, 50, pr("p", longBytes(256, 1, 1, 4, 3))...)
	m := empty(10)
	m.values["p"], m.places["p"] = strings.Repeat("\x00", 256), []int{1, 4, 5, 6}
	for _, k := range m.places["p"] {
		m.free[k] = false
	}
	s := open(t, d, 50)
	want(t, s, m)
	return d, s, m
}

// A value lies in the first extent that has enough, or in as many of the first ones as it needs.
func TestAValueOfSeveralExtents(t *testing.T) {
	for _, c := range []struct {
		sectors int
		where   []int
	}{
		{2, []int{2, 2}},
		{3, []int{7, 3}},
		{4, []int{0, 1, 2, 2, 7, 1}},
		{5, []int{0, 1, 2, 2, 7, 2}},
		{6, []int{0, 1, 2, 2, 7, 3}},
	} {
		for _, n := range []int{c.sectors*size - 63, c.sectors * size} {
			d, s, m := gap(t)
			m = wantDone(t, d, s, m, sets("v", body(n, 1)))
			wantWhere(t, s, "v", c.where...)
			wantFree(t, s, 6-c.sectors)
			m = wantDone(t, d, s, m, goes("v"))
			wantFree(t, s, 6)
			wantDone(t, d, s, m, sets("v", "short", "w", body(n, 2)))
			wantWhere(t, s, "w", c.where...)
		}
	}
}

func TestWhatJustFits(t *testing.T) {
	for sectors := 2; sectors < 12; sectors++ {
		d := sector.New(50 + sectors)
		s := format(t, d, 50)
		wantSilent(t, d, func() {
			for _, n := range []int{sectors*size + 1, sectors*size + 64, sectors*size + 65, 1 << 20} {
				wantApply(t, s, sets("k", body(n, 1)), api.ErrSpace)
				want(t, s, empty(sectors))
			}
		})
		m := wantDone(t, d, s, empty(sectors), sets("k", body(sectors*size, 1)))
		wantFree(t, s, 0)
		wantSilent(t, d, func() { // what it replaces is not free for it
			wantApply(t, s, sets("k", body(65, 2)), api.ErrSpace)
			wantApply(t, s, append(goes("k"), sets("j", body(65, 2))...), api.ErrSpace)
		})
		want(t, s, m)
		m = wantDone(t, d, s, m, sets("k", body(64, 3)))
		wantFree(t, s, sectors)
		wantDone(t, d, s, m, sets("k", body(sectors*size-1, 4)))
	}
}

// What is taken for one value is not free for the next, and where one has no room none of them is taken.
func TestValuesThatFitTogether(t *testing.T) {
	d := sector.New(60)
	s := format(t, d, 50)
	wantSilent(t, d, func() {
		wantApply(t, s, sets("a", body(320, 1), "b", body(321, 2)), api.ErrSpace)
		wantApply(t, s, sets("a", body(65, 1), "b", body(577, 2), "c", "3"), api.ErrSpace)
		wantApply(t, s, sets("a", body(200, 1), "b", body(200, 2), "c", body(200, 3), "d", "4"), api.ErrSpace)
		want(t, s, empty(10))
	})
	m := wantDone(t, d, s, empty(10), sets("a", body(320, 1), "b", body(320, 2)))
	wantFree(t, s, 0)
	wantSilent(t, d, func() {
		wantApply(t, s, sets("0", "1", "a", "short", "b", body(65, 3)), api.ErrSpace)
		wantApply(t, s, append(goes("a", "b"), sets("c", body(65, 3))...), api.ErrSpace)
		want(t, s, m)
	})
	m = wantDone(t, d, s, m, append(goes("b"), sets("a", "")...))
	wantFree(t, s, 10)
	wantDone(t, d, s, m, sets("a", body(640, 4)))
}

func TestLongBecomesShortAndShortLong(t *testing.T) {
	d := sector.New(60)
	s := format(t, d, 50)
	m := empty(10)
	for i, n := range []int{64, 65, 64, 300, 0, 320, 320, 1, 320, 65, 320} {
		ahead := s.Where("k")
		m = wantDone(t, d, s, m, sets("k", body(n, byte(i))))
		for _, x := range s.Where("k") {
			for _, y := range ahead {
				if x.At < y.At+y.Num && y.At < x.At+x.Num {
					t.Fatalf("step %d: from %d to %d", i, ahead, s.Where("k"))
				}
			}
		}
	}
	wantFree(t, s, 5)
}

// The keys have no room: the sectors are written by then, but nothing of it is to be seen.
func TestNoRoomForKeys(t *testing.T) {
	for _, ahead := range [][]api.Put{nil, sets("a", "1"), sets("a", body(100, 1)), sets("a", body(65, 1), "b", body(65, 2))} {
		d := sector.New(26)
		s := format(t, d, 6) // an area has 102 bytes
		m := wantDone(t, d, s, empty(20), ahead)
		for _, l := range [][]api.Put{
			sets(strings.Repeat("k", 100), "1"),
			sets(strings.Repeat("k", 100), body(100, 3)),
			sets("c", body(64, 4), "d", body(64, 5)),
			sets("a", body(64, 4), "b", body(64, 5), "c", body(65, 6)),
			append(goes("a"), sets("c", body(64, 4), "d", body(64, 5))...),
		} {
			for range 2 {
				wantApply(t, s, l, api.ErrSpace)
				want(t, s, m)
				wantLaid(t, d, 6, m)
				want(t, open(t, d, 6), m)
			}
		}
		wantDone(t, d, s, m, append(goes("b"), sets("a", body(200, 7))...)) // it goes on where it was
	}
}

func TestApplyWithoutPower(t *testing.T) {
	all := [][]api.Put{nil, sets("c", "3"), sets("c", body(65, 3)), sets("c", body(10000, 3)), goes("a"), goes("none")}
	for _, first := range all {
		d := sector.New(60)
		s := format(t, d, 50)
		m := wantDone(t, d, s, empty(10), sets("a", body(100, 1), "b", "2"))
		d.Lose(0)
		wantSilent(t, d, func() { wantApply(t, s, first, api.ErrDead) }) // also where there is no room
		d.On()
		for _, l := range all { // of no use any more, also with power
			wantSilent(t, d, func() { wantApply(t, s, l, api.ErrDead) })
		}
		wantGet(t, s, "b", "2", api.OK)
		wantFree(t, s, 8)
		want(t, open(t, d, 50), m)
	}
}

// Power that goes and comes back between two calls is none of a store's concern.
func TestPowerBetweenCalls(t *testing.T) {
	d := sector.New(60)
	s := format(t, d, 50)
	m := wantDone(t, d, s, empty(10), sets("a", body(100, 1), "b", "2"))
	d.Lose(0)
	d.On()
	want(t, s, m)
	wantDone(t, d, s, m, sets("a", body(200, 2)))
}

// A commit that begins the keys' next generation is one like all others.
func TestManyGenerations(t *testing.T) {
	d := sector.New(40)
	s := format(t, d, 10)
	m := empty(30)
	for i := range 60 {
		m = wantDone(t, d, s, m, sets("k", body(50+i*3, byte(i)), "l", body(i, 3)))
		if i%7 == 6 {
			m = wantDone(t, d, s, m, goes("k"))
		}
	}
	if s.keys.Generation() < 10 {
		t.Fatalf("generation %d", s.keys.Generation())
	}
}
