package journal

import (
	"math"
	"math/rand"
	"slices"
	"strings"
	"testing"

	"reef/api"
	"reef/sector"
)

// P7.1

func TestNeed(t *testing.T) {
	for n, want := range map[int]int{
		math.MinInt: 1, math.MinInt + 47: 1, math.MinInt + 48: 1, -56: 1, -55: 1, -48: 1, -47: 1, -8: 1, -1: 1,
		0: 1, 1: 1, 46: 1, 47: 1, 48: 2, 49: 2, 101: 2, 102: 2, 103: 3, 157: 3, 158: 4, 212: 4, 213: 5,
		47 + 55*4095: 4096, 48 + 55*4095: 4097, math.MaxInt32: 39045158,
		math.MaxInt: (math.MaxInt-48)/55 + 2, math.MaxInt - 1: (math.MaxInt-49)/55 + 2,
	} {
		if k := Need(n); k != want {
			t.Errorf("%d bytes need %d sectors; want %d", n, k, want)
		}
	}
	for n := -200; n < 5000; n++ {
		if k, want := Need(n), needByWords(n); k != want {
			t.Fatalf("%d bytes need %d sectors; want %d", n, k, want)
		}
	}
}

// P7.3

func TestAppendLaysTheSectors(t *testing.T) {
	for n := range 330 {
		rec := letters(n)
		d := sector.New(10)
		j := wantOpen(t, d, 2, 7, 1<<40+5)
		wantAppend(t, j, rec, api.OK)
		wantLaid(t, d, 2, whole(1<<40+5, rec)...)
		if writes, flushes := d.Writes(); writes != needByWords(n) || flushes != 1 || len(d.Dirty()) > 0 {
			t.Fatalf("%d bytes: %d writes, %d flushes, dirty %d", n, writes, flushes, d.Dirty())
		}
		wantNext(t, j, 1<<40+6, roomByWords(7-needByWords(n), 1))
	}
}

// A sector's own place in a record says nothing: also what lay there ahead goes.
func TestAppendPadsWithZeros(t *testing.T) {
	for n := range 120 {
		d := deviceOf(3, 0, slices.Repeat([]string{strings.Repeat("\xee", size)}, 3)...)
		j := wantOpen(t, d, 0, 3, 1)
		wantAppend(t, j, letters(n), api.OK)
		want := whole(1, letters(n))
		for len(want) < 3 {
			want = append(want, strings.Repeat("\xee", size))
		}
		wantLaid(t, d, 0, want...)
	}
}

func TestAppendWritesInOrder(t *testing.T) {
	rec := letters(47 + 55*3)
	for writes := range 4 {
		d := sector.New(6)
		j := wantOpen(t, d, 1, 5, 1)
		d.Cut(writes, math.MaxUint64)
		wantAppend(t, j, rec, api.ErrDead)
		wantLaid(t, d, 1, whole(1, rec)[:writes]...)
	}
}

func TestAppendOneBehindTheOther(t *testing.T) {
	d := sector.New(9)
	j := wantOpen(t, d, 1, 7, 3)
	var l, recs []string
	for i, n := range []int{0, 60, 47, 103} {
		recs = append(recs, letters(n))
		l = append(l, whole(int64(3+i), letters(n))...)
		wantAppend(t, j, letters(n), api.OK)
		wantLaid(t, d, 1, l...)
		wantNext(t, j, int64(4+i), roomByWords(7-len(l), 1))
		wantOpen(t, d, 1, 7, 3, recs...)
	}
	wantAppend(t, j, "", api.ErrFull)
	wantLaid(t, d, 1, l...)
}

func TestAppendGoesOnBehindTheLastOne(t *testing.T) {
	l := append(whole(4, letters(60)), whole(9, "b")...)
	d := deviceOf(8, 0, append(l, whole(8, "old")...)...)
	j := wantOpen(t, d, 0, 8, 2, letters(60), "b")
	wantAppend(t, j, "c", api.OK)
	wantLaid(t, d, 0, append(l, whole(10, "c")...)...)
	wantOpen(t, d, 0, 8, 4, letters(60), "b", "c")
}

func TestAppendThatFitsJust(t *testing.T) {
	for count := 1; count < 9; count++ {
		for behind := range count {
			d := sector.New(count + 2)
			j := wantOpen(t, d, 1, count, 1)
			for range behind {
				wantAppend(t, j, "x", api.OK)
			}
			room, next := 55*(count-behind)-8, int64(behind)+1
			wantNext(t, j, next, room)
			image := d.Image()
			writes, flushes := d.Writes()
			wantAppend(t, j, letters(room+1), api.ErrFull)
			wantAppend(t, j, letters(room+56), api.ErrFull)
			wantAppend(t, j, letters(5000), api.ErrFull)
			w, f := d.Writes()
			if string(image) != string(d.Image()) || w != writes || f != flushes || len(d.Dirty()) > 0 {
				t.Fatalf("ErrFull has written: %d, %d, dirty %d", w-writes, f-flushes, d.Dirty())
			}
			wantNext(t, j, next, room)
			wantAppend(t, j, letters(room), api.OK)
			wantNext(t, j, next+1, -1)
			wantAppend(t, j, "", api.ErrFull)
			wantOpen(t, d, 1, count, 1, append(slices.Repeat([]string{"x"}, behind), letters(room))...)
		}
	}
}

func TestAppendOfAWholeDevice(t *testing.T) {
	d := sector.New(api.MaxSectors)
	j := wantOpen(t, d, 0, api.MaxSectors, 1)
	rec := letters(55*api.MaxSectors - 8)
	wantAppend(t, j, rec+"x", api.ErrFull)
	wantAppend(t, j, rec, api.OK)
	wantNext(t, j, 2, -1)
	wantOpen(t, d, 0, api.MaxSectors, 1, rec)
}

func TestAppendOfTheLastNumber(t *testing.T) {
	d := sector.New(5)
	j := wantOpen(t, d, 0, 5, 1<<62-1)
	wantAppend(t, j, "a", api.OK)
	wantNext(t, j, 1<<62, 55*4-8)
	wantAppend(t, j, "b", api.OK)
	wantNext(t, j, 1<<62+1, -1)
	wantAppend(t, j, "", api.ErrFull)
	wantAppend(t, j, "c", api.ErrFull)
	j.Restart()
	wantNext(t, j, 1<<62+1, -1)
	wantAppend(t, j, "c", api.ErrFull)
	wantLaid(t, d, 0, append(whole(1<<62-1, "a"), whole(1<<62, "b")...)...)
	j = wantOpen(t, d, 0, 5, 1<<62-1, "a", "b")
	wantNext(t, j, 1<<62+1, -1)
	wantAppend(t, j, "", api.ErrFull)
	wantNext(t, wantOpen(t, d, 0, 5, 1<<62), 1<<62+1, -1)
	d.Lose(0)
	wantAppend(t, j, "c", api.ErrDead) // the first error is the answer
}

func TestAppendWithoutPower(t *testing.T) {
	d := sector.New(4)
	j := wantOpen(t, d, 0, 4, 1)
	wantAppend(t, j, "a", api.OK)
	d.Lose(0)
	wantAppend(t, j, "b", api.ErrDead)
	wantAppend(t, j, letters(5000), api.ErrDead) // the first error is the answer
	wantNext(t, j, 2, 55*3-8)
	d.On()
	wantAppend(t, j, "b", api.OK) // the power did not go meanwhile
	wantOpen(t, d, 0, 4, 1, "a", "b")
}

// Behind each write that finds the power going a journal tells ErrDead always.
func TestAppendWhenThePowerGoes(t *testing.T) {
	rec := letters(47 + 55*3)
	for writes := range 4 {
		for pick := range uint64(16) {
			d := sector.New(8)
			j := wantOpen(t, d, 1, 6, 1)
			wantAppend(t, j, "a", api.OK)
			d.Cut(writes, pick)
			wantAppend(t, j, rec, api.ErrDead)
			if !d.Dead() {
				t.Fatal("the power is there")
			}
			wantAppend(t, j, "b", api.ErrDead)
			d.On()
			image := d.Image()
			for range 2 {
				wantNext(t, j, 2, 55*5-8)
				wantAppend(t, j, "b", api.ErrDead)
				wantAppend(t, j, letters(5000), api.ErrDead)
			}
			j.Restart()
			wantNext(t, j, 2, 55*6-8)
			wantAppend(t, j, "b", api.ErrDead)
			if string(image) != string(d.Image()) || len(d.Dirty()) > 0 {
				t.Fatal("a journal that is of no use has written")
			}
		}
	}
}

func TestAppendBehindACutThatLetsItThrough(t *testing.T) {
	d := sector.New(6)
	j := wantOpen(t, d, 0, 6, 1)
	d.Cut(4, 0)
	wantAppend(t, j, letters(47+55*3), api.OK)
	wantAppend(t, j, "b", api.ErrDead)
	d.On()
	wantOpen(t, d, 0, 6, 1, letters(47+55*3))
}

// P7.4, P7.5

func TestRestart(t *testing.T) {
	d := sector.New(6)
	j := wantOpen(t, d, 1, 4, 7)
	wantAppend(t, j, "a", api.OK)
	wantAppend(t, j, letters(60), api.OK)
	wantNext(t, j, 9, 47)
	image := d.Image()
	writes, flushes := d.Writes()
	for range 2 {
		j.Restart()
		wantNext(t, j, 9, 212)
	}
	if w, f := d.Writes(); w != writes || f != flushes || string(image) != string(d.Image()) {
		t.Fatal("Restart has written")
	}
	wantOpen(t, d, 1, 4, 7, "a", letters(60)) // until something is appended
	wantAppend(t, j, "b", api.OK)
	wantNext(t, j, 10, 157)
	wantLaid(t, d, 1, append(whole(9, "b"), whole(8, letters(60))...)...)
	wantAppend(t, j, letters(158), api.ErrFull)
	wantAppend(t, j, letters(157), api.OK)
	wantNext(t, j, 11, -1)
	wantOpen(t, d, 1, 4, 9, "b", letters(157))
}

func TestRestartOfOneThatWasFull(t *testing.T) {
	d := sector.New(3)
	j := wantOpen(t, d, 0, 3, 1)
	wantAppend(t, j, letters(157), api.OK)
	wantNext(t, j, 2, -1)
	j.Restart()
	wantNext(t, j, 2, 157)
	wantAppend(t, j, letters(102), api.OK)
	wantOpen(t, d, 0, 3, 2, letters(102))
}

func TestRestartOfOneThatIsNew(t *testing.T) {
	d := sector.New(3)
	j := wantOpen(t, d, 0, 3, 5)
	j.Restart()
	wantNext(t, j, 5, 157)
	wantAppend(t, j, "a", api.OK)
	wantOpen(t, d, 0, 3, 5, "a")
}

func TestRestartWithoutPower(t *testing.T) {
	d := sector.New(3)
	j := wantOpen(t, d, 0, 3, 1)
	wantAppend(t, j, "a", api.OK)
	d.Lose(0)
	j.Restart()
	wantNext(t, j, 2, 157)
}

func TestNextAndRoomAreAskedOnly(t *testing.T) {
	d := sector.New(3)
	j := wantOpen(t, d, 0, 3, 1)
	for range 3 {
		wantNext(t, j, 1, 157)
	}
	wantAppend(t, j, letters(157), api.OK)
}

// A journal is its own: another one on the same device, or elsewhere on it, changes nothing of it.
func TestJournalsSideBySide(t *testing.T) {
	d := sector.New(8)
	a, b := wantOpen(t, d, 0, 4, 1), wantOpen(t, d, 4, 4, 100)
	wantAppend(t, a, "a", api.OK)
	wantAppend(t, b, letters(60), api.OK)
	wantAppend(t, a, letters(100), api.OK)
	b.Restart()
	wantAppend(t, b, "b", api.OK)
	wantNext(t, a, 3, 47)
	wantNext(t, b, 102, 157)
	wantOpen(t, d, 0, 4, 1, "a", letters(100))
	wantOpen(t, d, 4, 4, 101, "b")
}

func TestAJournalThatOpenDidNotGive(t *testing.T) {
	none := []*Journal{nil, {}, new(Journal)}
	j, _, _ := Open(nil, 0, 1, 1)
	k, _, _ := Open(sector.New(3), 0, 4, 1)
	for _, j := range append(none, j, k) {
		for range 2 {
			wantAppend(t, j, "", api.ErrDead)
			wantAppend(t, j, "a", api.ErrDead)
			wantAppend(t, j, letters(5000), api.ErrDead)
			wantNext(t, j, 0, -1)
			j.Restart()
			wantNext(t, j, 0, -1)
		}
	}
}

// P7.8

func TestBytesOfAllKinds(t *testing.T) {
	var all []byte
	for c := range 256 {
		all = append(all, byte(c))
	}
	recs := []string{
		"", "\x00", "\x01", "\x02", "\xff", string(all), strings.Repeat("\x00", 200), strings.Repeat("\xff", 200),
		strings.Join(whole(5, letters(100)), ""), strings.Join(whole(1<<62, ""), "")[:47],
		letters(47) + strings.Join(whole(9, "")[:1], "") + "\x00\x00", "a\x00\x00", "\x00\x00a", "\xc3\x28\n\r\"é",
	}
	d := sector.New(100)
	j := wantOpen(t, d, 3, 90, 1)
	for i, rec := range recs {
		wantAppend(t, j, rec, api.OK)
		wantOpen(t, d, 3, 90, 1, recs[:i+1]...)
	}
	for c := range 256 {
		for _, n := range []int{1, 47, 48, 103} {
			d := sector.New(3)
			rec := strings.Repeat(string([]byte{byte(c)}), n)
			wantAppend(t, wantOpen(t, d, 0, 3, 1), rec, api.OK)
			wantOpen(t, d, 0, 3, 1, rec)
		}
	}
}

func TestBytesByChance(t *testing.T) {
	r := rand.New(rand.NewSource(72))
	for range 500 {
		d := sector.New(60)
		j := wantOpen(t, d, 0, 60, 1+r.Int63n(1<<61))
		first := j.Next()
		var recs []string
		for {
			rec := text(r, r.Intn(400))
			if len(rec) > j.Room() {
				wantAppend(t, j, rec, api.ErrFull)
				break
			}
			wantAppend(t, j, rec, api.OK)
			recs = append(recs, rec)
		}
		wantOpen(t, d, 0, 60, first, recs...)
		wantOpen(t, sector.Load(d.Image()), 0, 60, first, recs...)
	}
}
