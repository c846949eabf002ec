package journal

import (
	"math/rand"
	"slices"
	"testing"

	"reef/api"
	"reef/sector"
)

// oldRows is rows that bear no number of 10 or more: new ones, ones of ahead, cut ones, and bytes that are none.
func oldRows() [][]string {
	r := rand.New(rand.NewSource(73))
	rows := [][]string{
		nil,
		slices.Concat(whole(1, "o"), whole(2, "p"), whole(3, "q"), whole(4, "r")),
		slices.Concat(whole(8, letters(60)), whole(9, letters(103))),
		whole(9, letters(300)),
		whole(9, letters(300))[1:],
		slices.Concat(whole(9, "")[:1], whole(7, letters(150))[1:], whole(9, letters(150))[1:]),
	}
	odd := []string{}
	for range 6 {
		odd = append(odd, tail(byte(r.Intn(2)*3), r.Uint64(), text(r, 55)))
	}
	return append(rows, odd)
}

// told is what must stand: what was appended with OK, and perhaps one behind it.
type told struct {
	recs []string
	torn string
}

// reopened opens behind a loss, asks that what stands may stand, and takes it.
func (w *told) reopened(t *testing.T, d *sector.Device, count int, first int64) *Journal {
	t.Helper()
	d.On()
	j, l := open(t, d, 0, count, first)
	if !slices.Equal(l, w.recs) && !slices.Equal(l, append(slices.Clone(w.recs), w.torn)) {
		t.Fatalf("behind the power: %.20q; want %.20q, and perhaps %.20q", l, w.recs, w.torn)
	}
	w.recs = l
	return j
}

// tear appends while the power goes, and opens again.
func (w *told) tear(t *testing.T, d *sector.Device, j *Journal, rec string, first int64, writes int, pick uint64) *Journal {
	t.Helper()
	w.torn = rec
	d.Cut(writes, pick)
	wantAppend(t, j, rec, api.ErrDead)
	return w.reopened(t, d, 6, first)
}

// P7.6

// Each write of two Appends in a row finds the power going, with each pick, and one more that goes through is seen behind them.
func TestPowerAtEachWriteTwice(t *testing.T) {
	a, b := letters(47+55+20), letters(47+55)
	for _, row := range oldRows() {
		for way := range 3 * 8 * 2 * 4 {
			w := told{}
			d := deviceOf(6, 0, row...)
			j := wantOpen(t, d, 0, 6, 10)
			wantAppend(t, j, "first", api.OK)
			w.recs = []string{"first"}
			j = w.tear(t, d, j, a, 10, way%3, uint64(way/3%8))
			if len(w.recs) > 1 {
				t.Fatal("a record stands, of which a sector was not written")
			}
			j = w.tear(t, d, j, b, 10, way/24%2, uint64(way/48))
			wantAppend(t, j, "last", api.OK)
			wantOpen(t, d, 0, 6, 10, append(w.recs, "last")...)
		}
	}
}

// The power goes between the last write and the flush: by a device that is loaded with what each pick would lay down.
func TestPowerAheadOfTheFlush(t *testing.T) {
	rec := letters(47 + 55 + 55)
	for _, row := range oldRows() {
		for pick := range uint64(8) {
			d := deviceOf(6, 0, row...)
			j := wantOpen(t, d, 0, 6, 10)
			wantAppend(t, j, "first", api.OK)
			next := j.Next()
			for i, s := range whole(next, rec) {
				d.Write(1+i, []byte(s))
			}
			d.Lose(pick)
			w := told{recs: []string{"first"}, torn: rec}
			j = w.reopened(t, d, 6, 10)
			if (len(w.recs) == 2) != (pick == 7) {
				t.Fatalf("by the pick %b: %.20q", pick, w.recs)
			}
			if pick > 0 && j.Next() != next+1 {
				t.Fatalf("by the pick %b: Next %d; want %d: the number was used", pick, j.Next(), next+1)
			}
			wantAppend(t, j, "last", api.OK)
			wantOpen(t, d, 0, 6, 10, append(w.recs, "last")...)
		}
	}
}

// No number is used for two records, also where one came down in part: what is left of it never ends another one.
func TestNoNumberTwice(t *testing.T) {
	a, b := letters(47+55), "\xee"+letters(47+54)
	for pick := range uint64(4) {
		d := sector.New(6)
		j := wantOpen(t, d, 0, 6, 1)
		d.Cut(1, pick)
		wantAppend(t, j, a, api.ErrDead)
		d.On()
		used := false
		for _, s := range rowOf(t, d, 0, 6) {
			_, is := number(s)
			used = used || is
		}
		j = wantOpen(t, d, 0, 6, 1)
		if used == (j.Next() == 1) {
			t.Fatalf("Next %d, while a number 1 stands: %v", j.Next(), used)
		}
		wantAppend(t, j, b, api.OK)
		wantOpen(t, d, 0, 6, 1, b)
	}
	// Left over: the second sector, with the number that would come next by the first sectors alone.
	d := deviceOf(6, 0, whole(1, "a")[0], padded(nil), whole(2, a)[1])
	j := wantOpen(t, d, 0, 6, 1, "a")
	wantNext(t, j, 3, 55*5-8)
	d.Cut(1, 1)
	wantAppend(t, j, a, api.ErrDead) // its first sector is laid down, its second one is the elder one's
	d.On()
	j = wantOpen(t, d, 0, 6, 1, "a")
	wantNext(t, j, 4, 55*5-8)
}

func TestPowerByChance(t *testing.T) {
	r := rand.New(rand.NewSource(74))
	for range 2000 {
		count := 2 + r.Intn(14)
		rows := oldRows()
		d := deviceOf(20, 0, rows[r.Intn(len(rows))]...)
		first := 10 + int64(r.Intn(3))*r.Int63n(1<<60)
		j := wantOpen(t, d, 0, count, first)
		w := told{}
		for range 30 {
			if r.Intn(3) == 0 {
				d.Cut(r.Intn(4), r.Uint64())
			}
			rec := text(r, r.Intn(170))
			switch e := j.Append(rec); e {
			case api.OK:
				w.recs = append(w.recs, rec)
			case api.ErrDead:
				w.torn = rec
				j = w.reopened(t, d, count, first)
			}
			if r.Intn(10) == 0 { // the power goes between two
				w.torn = ""
				d.Lose(r.Uint64())
				d.On()
				j = wantOpen(t, d, 0, count, first, w.recs...)
			}
		}
		wantOpen(t, sector.Load(d.Image()), 0, count, first, w.recs...)
	}
}

// P7.7

func TestRestartThenOpenWithNumbers(t *testing.T) {
	d := sector.New(8)
	j := wantOpen(t, d, 2, 4, 1)
	wantAppend(t, j, "a", api.OK)
	wantAppend(t, j, letters(50), api.OK)
	j.Restart()
	wantOpen(t, d, 2, 4, 3) // nothing is appended as yet
	wantAppend(t, j, "b", api.OK)
	for first := int64(1); first <= 3; first++ {
		wantNext(t, wantOpen(t, d, 2, 4, first, "b"), 4, 157)
	}
	wantNext(t, wantOpen(t, d, 2, 4, 4), 4, 212)
	wantNext(t, wantOpen(t, d, 2, 4, 9), 9, 212)
}

// What was appended ahead of a Restart stands right behind what was appended since, and is whole: it is none of these.
func TestElderRecordsNeverStandAmongThem(t *testing.T) {
	for elder := 1; elder < 5; elder++ {
		for since := range 5 {
			for _, n := range []int{0, 47, 48, 102} {
				d := sector.New(12)
				j := wantOpen(t, d, 0, 12, 1)
				for i := range elder {
					wantAppend(t, j, letters(max(n-i, 0)), api.OK)
				}
				first := j.Next()
				j.Restart()
				var want []string
				for range since {
					want = append(want, letters(n))
					wantAppend(t, j, letters(n), api.OK)
					wantOpen(t, d, 0, 12, first, want...)
				}
				wantOpen(t, d, 0, 12, first, want...)
				wantNext(t, wantOpen(t, d, 0, 12, first+int64(since)), first+int64(since), 55*12-8)
			}
		}
	}
}

// The power goes at each write of the first Append behind a Restart: by the number that was next it stands, or nothing; by the elder one perhaps what was ahead.
func TestPowerBehindARestart(t *testing.T) {
	rec := letters(47 + 55*2)
	for writes := range 3 {
		for pick := range uint64(8) {
			d := sector.New(6)
			j := wantOpen(t, d, 0, 6, 1)
			wantAppend(t, j, "a", api.OK)
			wantAppend(t, j, "b", api.OK)
			wantAppend(t, j, letters(100), api.OK)
			j.Restart()
			d.Cut(writes, pick)
			wantAppend(t, j, rec, api.ErrDead)
			d.On()
			lost := (1<<writes-1)&pick == 0
			j = wantOpen(t, d, 0, 6, 4)
			if lost {
				wantNext(t, j, 4, 55*6-8)
				wantOpen(t, d, 0, 6, 1, "a", "b", letters(100))
			} else {
				wantNext(t, j, 5, 55*6-8)
			}
			wantAppend(t, j, "c", api.OK)
			wantOpen(t, d, 0, 6, 4, "c")
		}
	}
}

func TestRestartsByChance(t *testing.T) {
	r := rand.New(rand.NewSource(75))
	for range 1500 {
		count := 3 + r.Intn(12)
		d := sector.New(16)
		first := 1 + int64(r.Intn(3))*r.Int63n(1<<60)
		j := wantOpen(t, d, 0, count, first)
		w := told{}
		for range 40 {
			rec := text(r, r.Intn(120))
			if len(rec) > j.Room() || r.Intn(12) == 0 {
				first = j.Next()
				j.Restart()
				w = told{}
				continue
			}
			if r.Intn(6) == 0 {
				d.Cut(r.Intn(3), r.Uint64())
			}
			if j.Append(rec) == api.OK {
				w.recs = append(w.recs, rec)
			} else {
				w.torn = rec
				j = w.reopened(t, d, count, first)
			}
			wantOpen(t, d, 0, count, first, w.recs...)
		}
	}
}
