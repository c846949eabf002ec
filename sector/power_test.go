package sector

import (
	"math"
	"math/rand"
	"slices"
	"testing"

	"reef/api"
)

// dirtyDevice is a device of n sectors, all in the cache, in an order by chance.
func dirtyDevice(t *testing.T, n int, seed int64) (*Device, []int) {
	t.Helper()
	d := New(n)
	order := rand.New(rand.NewSource(seed)).Perm(n)
	for _, k := range order {
		write(t, d, k, full(byte(k)))
	}
	return d, order
}

// P5.5

func TestLoseByEachBit(t *testing.T) {
	for _, n := range []int{1, 3, 63, 64, 65, 128, 129, 200} {
		for bit := range 64 {
			d, order := dirtyDevice(t, n, int64(n))
			want := map[int][]byte{}
			for j := bit; j < n; j += 64 {
				want[order[j]] = full(byte(order[j]))
			}
			d.Lose(1 << bit)
			wantLaid(t, d, n, want)
			wantDead(t, d, true)
			wantDirty(t, d)
		}
	}
}

func TestLoseAllAndNone(t *testing.T) {
	for _, n := range []int{1, 64, 65, 200} {
		d, order := dirtyDevice(t, n, 1)
		d.Lose(0)
		wantLaid(t, d, n, nil)
		d, _ = dirtyDevice(t, n, 1)
		d.Lose(math.MaxUint64)
		all := map[int][]byte{}
		for _, k := range order {
			all[k] = full(byte(k))
		}
		wantLaid(t, d, n, all)
	}
}

func TestLoseKeepsTheOrderSinceTheFlush(t *testing.T) {
	d := New(4)
	write(t, d, 3, full(1))
	flush(t, d)
	write(t, d, 1, full(2))
	write(t, d, 3, full(3))
	d.Lose(0b10) // the sector 3 is the second one now
	wantLaid(t, d, 4, map[int][]byte{3: full(3)})
	d.On()
	write(t, d, 2, full(4))
	write(t, d, 1, full(5))
	d.Lose(0b01) // the sectors of ahead of the loss have no place any more
	wantLaid(t, d, 4, map[int][]byte{3: full(3), 2: full(4)})
}

func TestLoseOfAnEmptyCache(t *testing.T) {
	d := Load(full(1))
	d.Lose(math.MaxUint64)
	wantDead(t, d, true)
	wantLaid(t, d, 1, map[int][]byte{0: full(1)})
}

func TestLoseWithoutPower(t *testing.T) {
	d := New(2)
	write(t, d, 0, full(1))
	write(t, d, 1, full(2))
	d.Lose(0b10)
	d.Lose(0b01)
	d.Lose(math.MaxUint64)
	wantDead(t, d, true)
	wantLaid(t, d, 2, map[int][]byte{1: full(2)})
	wantCounts(t, d, 2, 0)
	d.On()
	wantDirty(t, d)
	wantBytes(t, d, 0, make([]byte, 64))
}

func TestLoseTakesTheCut(t *testing.T) {
	d := New(2)
	d.Cut(0, 0)
	d.Lose(0)
	d.On()
	write(t, d, 0, full(1))
	d.Cut(2, 0)
	write(t, d, 0, full(1))
	d.Lose(0)
	d.On()
	for range 5 {
		write(t, d, 0, full(1))
	}
}

// P5.6

func TestCutOfNone(t *testing.T) {
	d := New(2)
	d.Cut(0, 0)
	wantDead(t, d, false) // only a write finds it
	flush(t, d)
	wantBytes(t, d, 0, make([]byte, 64))
	wantWrite(t, d, 0, full(1), api.ErrDead)
	wantDead(t, d, true)
	wantDirty(t, d)
	wantLaid(t, d, 2, nil)
	wantCounts(t, d, 0, 1)
}

func TestCutLosesByItsPick(t *testing.T) {
	for pick := range uint64(16) {
		d := New(8)
		order := []int{5, 2, 7, 0}
		write(t, d, 5, full(5)) // ahead of the cut, and in the cache all the same
		write(t, d, 2, full(2))
		d.Cut(2, pick)
		write(t, d, 7, full(7))
		write(t, d, 0, full(0))
		wantWrite(t, d, 6, full(6), api.ErrDead)
		want := map[int][]byte{}
		for j, k := range order {
			if pick>>j&1 == 1 {
				want[k] = full(byte(k))
			}
		}
		wantLaid(t, d, 8, want)
		wantDead(t, d, true)
		wantDirty(t, d)
	}
}

func TestCutOfTheWriteItselfIsLost(t *testing.T) {
	d := New(2)
	write(t, d, 0, full(1))
	d.Cut(0, math.MaxUint64)
	wantWrite(t, d, 0, full(2), api.ErrDead)
	wantLaid(t, d, 2, map[int][]byte{0: full(1)})
	d.On()
	d.Cut(0, math.MaxUint64)
	wantWrite(t, d, 1, full(3), api.ErrDead)
	wantLaid(t, d, 2, map[int][]byte{0: full(1)})
}

func TestCutCountsFromWhereItIsSet(t *testing.T) {
	d := New(2)
	for range 7 {
		write(t, d, 0, full(1))
	}
	d.Cut(3, 0)
	for range 3 {
		write(t, d, 0, full(1)) // also one in the place of an earlier one counts
	}
	wantWrite(t, d, 0, full(1), api.ErrDead)
	wantCounts(t, d, 10, 0)
}

func TestCutSetAnew(t *testing.T) {
	for _, c := range []struct{ first, between, then int }{
		{0, 0, 2}, {5, 3, 0}, {5, 3, 1}, {5, 5, 0}, {5, 5, 3}, {1, 1, 9}, {3, 0, 3}, {2, 1, 2},
	} {
		d := New(4)
		d.Cut(c.first, math.MaxUint64)
		for range c.between {
			write(t, d, 0, full(1))
		}
		d.Cut(c.then, 0)
		for range c.then {
			write(t, d, 1, full(2))
		}
		wantWrite(t, d, 2, full(3), api.ErrDead)
		wantLaid(t, d, 4, nil) // by the last cut's pick
	}
}

func TestCutOfFewerThanNone(t *testing.T) {
	for _, n := range []int{-1, -2, -64, math.MinInt} {
		d := New(2)
		d.Cut(n, 0)
		write(t, d, 0, full(1))
		d.Cut(1, 0)
		write(t, d, 0, full(2))
		d.Cut(n, 0)
		for range 10 {
			write(t, d, 0, full(3))
		}
		wantDead(t, d, false)
		flush(t, d)
		wantLaid(t, d, 2, map[int][]byte{0: full(3)})
	}
}

func TestCutOfVeryMany(t *testing.T) {
	d := New(2)
	d.Cut(math.MaxInt, 0)
	for range 1000 {
		write(t, d, 1, full(1))
	}
	wantDead(t, d, false)
}

func TestCutIsNotCountedByRefusedWrites(t *testing.T) {
	d := New(2)
	d.Cut(2, 0)
	refused := func() {
		for range 5 {
			wantWrite(t, d, 2, full(1), api.ErrNumber)
			wantWrite(t, d, -1, nil, api.ErrNumber)
			wantWrite(t, d, 0, nil, api.ErrForm)
			wantWrite(t, d, 1, make([]byte, 65), api.ErrForm)
		}
		wantDead(t, d, false)
	}
	refused()
	write(t, d, 0, full(1))
	refused()
	write(t, d, 0, full(1))
	refused()
	wantWrite(t, d, 0, full(1), api.ErrDead)
	wantDead(t, d, true)
}

func TestCutIsNotCountedByFlushes(t *testing.T) {
	d := New(2)
	d.Cut(2, 0)
	flush(t, d)
	write(t, d, 0, full(1))
	flush(t, d)
	flush(t, d)
	write(t, d, 1, full(2))
	flush(t, d)
	wantWrite(t, d, 0, full(3), api.ErrDead)
	wantLaid(t, d, 2, map[int][]byte{0: full(1), 1: full(2)})
}

func TestCutWithoutPower(t *testing.T) {
	d := New(2)
	d.Lose(0)
	d.Cut(0, 0)
	d.Cut(1, 0)
	d.On()
	for range 5 {
		write(t, d, 0, full(1))
	}
	wantDead(t, d, false)
	d.Lose(0)
	d.Cut(-1, 0)
	wantDead(t, d, true)
}

// P5.7

func TestOnWithPower(t *testing.T) {
	d := New(4)
	write(t, d, 2, full(1))
	write(t, d, 1, full(2))
	d.Cut(1, 0b10)
	d.On()
	d.On()
	wantDead(t, d, false)
	wantDirty(t, d, 2, 1)
	wantCounts(t, d, 2, 0)
	wantLaid(t, d, 4, nil)
	write(t, d, 0, full(3))
	d.On()
	wantWrite(t, d, 3, full(4), api.ErrDead) // the cut was as it had been set
	wantLaid(t, d, 4, map[int][]byte{1: full(2)})
}

func TestOnTwice(t *testing.T) {
	d := New(2)
	write(t, d, 0, full(1))
	d.Lose(1)
	d.On()
	write(t, d, 1, full(2))
	d.On()
	wantDead(t, d, false)
	wantDirty(t, d, 1)
	wantBytes(t, d, 0, full(1))
	wantBytes(t, d, 1, full(2))
	wantCounts(t, d, 2, 0)
}

func TestOnChangesNothingElse(t *testing.T) {
	d := New(3)
	write(t, d, 0, full(1))
	flush(t, d)
	write(t, d, 0, full(2))
	write(t, d, 1, full(3))
	d.Lose(0b10)
	d.On()
	wantDead(t, d, false)
	wantDirty(t, d)
	wantBytes(t, d, 0, full(1))
	wantBytes(t, d, 1, full(3))
	wantBytes(t, d, 2, make([]byte, 64))
	wantLaid(t, d, 3, map[int][]byte{0: full(1), 1: full(3)})
	wantCounts(t, d, 3, 1)
}

// P5.9

func TestFlushIsAWall(t *testing.T) {
	r := rand.New(rand.NewSource(55))
	for range 500 {
		const n = 6
		d := New(n)
		for range r.Intn(12) {
			write(t, d, r.Intn(n), chance(r, 64))
		}
		var ahead [n]string
		for k := range n {
			b, _ := d.Read(k)
			ahead[k] = string(b)
		}
		flush(t, d)
		written := map[int][]string{}
		if r.Intn(2) == 0 {
			d.Cut(r.Intn(5), somePick(r))
		}
		for range r.Intn(6) {
			k, b := r.Intn(n), chance(r, 64)
			if d.Write(k, b) == api.OK {
				written[k] = append(written[k], string(b))
			}
		}
		d.Lose(somePick(r))
		image := d.Image()
		for k := range n {
			got := string(image[64*k : 64*k+64])
			l := written[k]
			if got != ahead[k] && (len(l) == 0 || got != l[len(l)-1]) {
				t.Fatalf("sector %d is neither what was flushed nor what was written last", k)
			}
		}
	}
}

// P5.10

// Each pick of a row of writes: each sector has what was laid down ahead, or its last write; and that is what a device loaded with the image has, and what this one has behind On.
func TestEachLossOfARow(t *testing.T) {
	old := [][]byte{full(100), full(101), full(102), full(103), full(104)}
	row := []int{3, 0, 3, 4, 1, 0, 4}
	order := []int{3, 0, 4, 1} // the sector 2 is never written
	last := map[int][]byte{3: full(2), 0: full(5), 4: full(6), 1: full(4)}
	for pick := range uint64(32) {
		d := Load(slices.Concat(old...))
		for i, k := range row {
			write(t, d, k, full(byte(i)))
		}
		d.Lose(pick)
		want := slices.Clone(old)
		for j, k := range order {
			if pick>>j&1 == 1 {
				want[k] = last[k]
			}
		}
		again := Load(d.Image())
		d.On()
		for k, b := range want {
			wantBytes(t, d, k, b)
			wantBytes(t, again, k, b)
		}
		wantDirty(t, again)
		wantDead(t, again, false)
	}
}

// P5.11

func TestCutLetsSoManyThrough(t *testing.T) {
	for n := range 80 {
		d := New(5)
		d.Cut(n, uint64(n))
		good := 0
		for d.Write(good%5, full(byte(good))) == api.OK && good <= n {
			good++
		}
		if good != n {
			t.Fatalf("Cut(%d): %d writes go through", n, good)
		}
		for k := range 10 {
			wantWrite(t, d, k%5, full(1), api.ErrDead)
		}
		wantCounts(t, d, n, 0)
		d.On()
		for k := range 10 { // and behind On no cut is set
			write(t, d, k%5, full(1))
		}
		wantCounts(t, d, n+10, 0)
	}
}

// A Device that neither New nor Load gave.

func wantNoDevice(t *testing.T, d *Device) {
	t.Helper()
	for _, k := range []int{0, 1, -1, 4096, math.MaxInt, math.MinInt} {
		wantNoRead(t, d, k, api.ErrDead)
		wantWrite(t, d, k, full(1), api.ErrDead)
		wantWrite(t, d, k, nil, api.ErrDead)
	}
	if e := d.Flush(); e != api.ErrDead {
		t.Fatalf("Flush: %v", e)
	}
	wantDead(t, d, true)
	wantDirty(t, d)
	wantCounts(t, d, 0, 0)
	if d.Sectors() != 0 || len(d.Image()) != 0 {
		t.Fatalf("%d sectors, %d bytes", d.Sectors(), len(d.Image()))
	}
}

func TestNoDevice(t *testing.T) {
	for _, d := range []*Device{nil, {}, new(Device), New(0), Load(nil)} {
		wantNoDevice(t, d)
		for _, n := range []int{0, 1, -1, math.MaxInt, math.MinInt} {
			d.Cut(n, math.MaxUint64)
			wantNoDevice(t, d)
			d.On()
			wantNoDevice(t, d)
			d.Lose(math.MaxUint64)
			wantNoDevice(t, d)
			d.Lose(0)
			d.On()
			wantNoDevice(t, d)
		}
	}
	var plain Device
	plain.On()
	wantNoDevice(t, &plain)
}
