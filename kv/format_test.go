package kv

import (
	"math"
	"strings"
	"testing"

	"reef/api"
	"reef/sector"
)

// noRows is rows that a device of 10 sectors has not, or that are too short.
var noRows = []place{
	{0, 5}, {0, 0}, {0, -1}, {0, -6}, {0, 1}, {5, 5}, {3, 2}, {10, 0}, {11, -1}, {16, -6},
	{0, 11}, {1, 10}, {4, 7}, {5, 6}, {9, 6}, {10, 6}, {11, 6}, {100, 6},
	{-1, 6}, {-1, 10}, {-6, 6}, {-1, 11}, {-10, 20}, {-1, 5},
	{math.MinInt, 6}, {math.MinInt, math.MaxInt}, {math.MinInt, math.MinInt}, {-1, math.MaxInt},
	{math.MaxInt, 6}, {math.MaxInt - 5, 6}, {math.MaxInt, math.MaxInt}, {6, math.MaxInt}, {0, math.MaxInt}, {0, math.MinInt}, {math.MaxInt, math.MinInt},
}

func wantNoFormat(t *testing.T, d *sector.Device, p place, err api.Errno) {
	t.Helper()
	if b, e := Format(d, p.from, p.count); b != nil || e != err {
		t.Fatalf("Format(%d, %d): %v, %v; want %v", p.from, p.count, b, e, err)
	}
}

// P8.1, P8.2

func TestRowsThatAreNot(t *testing.T) {
	d := sector.Load([]byte(strings.Repeat("\xee", 10*size)))
	for _, p := range noRows {
		wantSilent(t, d, func() {
			wantNoFormat(t, d, p, api.ErrNumber)
			wantNoOpen(t, d, p, api.ErrNumber)
		})
	}
	for _, p := range []place{{0, 6}, {4, 6}, {0, 10}, {1, 9}, {3, 7}, {0, 7}} {
		want(t, format(t, d, p), 1, nil)
		wantOpen(t, d, p, 1, nil)
	}
}

func TestNoDeviceAndNoPower(t *testing.T) {
	gone := sector.New(10)
	format(t, gone, place{0, 10})
	gone.Lose(0)
	for _, d := range []*sector.Device{nil, {}, sector.New(0), sector.New(api.MaxSectors + 1), gone} {
		for _, p := range append(noRows, place{0, 10}, place{0, 6}) { // the first error is the answer
			wantNoFormat(t, d, p, api.ErrDead)
			wantNoOpen(t, d, p, api.ErrDead)
		}
	}
	gone.On()
	wantOpen(t, gone, place{0, 10}, 1, nil)
	want(t, format(t, gone, place{0, 10}), 1, nil)
}

// formatted is the sectors of a row behind Format: all zero, but for the checkpoint and the head.
func formatted(image []byte, p place) []byte {
	out := []byte(string(image))
	lay := func(k int, s string) { copy(out[size*k:], s) }
	for k := range p.count {
		lay(p.from+k, padded(nil))
	}
	at, _ := p.area(1)
	lay(at, recordSectors(1, checkpointBytes())[0])
	lay(p.headAt(1), headBytes(1, 1))
	return out
}

func TestFormatLays(t *testing.T) {
	for count := 6; count < 24; count++ {
		for from := range 4 {
			p := place{from, count}
			old := []byte(strings.Repeat("\xee", (count+7)*size))
			d := sector.Load(old)
			b := format(t, d, p)
			want(t, b, 1, nil)
			wantLaid(t, d, formatted(old, p))
			if w, f := d.Writes(); w != count+2 || f != 3 {
				t.Fatalf("%d sectors: %d writes, %d flushes", count, w, f)
			}
			wantSilent(t, d, func() { wantOpen(t, d, p, 1, nil) })
		}
	}
}

func TestFormatByTheExample(t *testing.T) {
	d := sector.New(10)
	b := format(t, d, place{0, 10})
	image := d.Image()
	if sectorOf(image, 1) != headBytes(1, 1) || sectorOf(image, 6) != recordSectors(1, "\x01\x00")[0] {
		t.Fatal("the head is not in sector 1, or the first record not in sector 6")
	}
	wantCommit(t, b, nil, pr("a", "1"), api.OK)
	if s := sectorOf(d.Image(), 7); s != recordSectors(2, "\x02\x00\x01\x01a\x011")[0] {
		t.Fatalf("record 2: %x", s)
	}
	wantOpen(t, d, place{0, 10}, 1, pr("a", "1"))
}

func TestFormatOfWhatWasThere(t *testing.T) {
	p := place{1, 20}
	d := sector.New(24)
	b := format(t, d, p)
	wantCommit(t, b, nil, pr("a", strings.Repeat("x", 200)), api.OK)
	wantTurn(t, b, api.OK)
	wantTurn(t, b, api.OK)
	wantCommit(t, b, nil, pr("b", ""), api.OK)
	want(t, format(t, d, p), 1, nil)
	wantLaid(t, d, formatted(make([]byte, 24*size), p)) // no number of ahead is left that would be gone on from
	wantOpen(t, d, p, 1, nil)
}

func TestFormatOfTwoRows(t *testing.T) {
	d := sector.New(16)
	p, q := place{0, 8}, place{8, 8}
	b, c := format(t, d, p), format(t, d, q)
	wantCommit(t, b, nil, pr("a", "1"), api.OK)
	wantTurn(t, b, api.OK)
	wantCommit(t, c, nil, pr("b", "2"), api.OK)
	want(t, b, 2, pr("a", "1"))
	wantOpen(t, d, p, 2, pr("a", "1"))
	wantOpen(t, d, q, 1, pr("b", "2"))
	format(t, d, q)
	wantOpen(t, d, p, 2, pr("a", "1"))
	wantOpen(t, d, q, 1, nil)
}

func TestFormatOfAWholeDevice(t *testing.T) {
	d := sector.New(api.MaxSectors)
	p := place{0, api.MaxSectors}
	b := format(t, d, p)
	big := strings.Repeat("v", 55*2046-8-3-2-3) // a commit that has just the Room behind the checkpoint
	wantCommit(t, b, nil, pr("k", big), api.OK)
	wantOpen(t, d, p, 1, pr("k", big))
	wantTurn(t, b, api.OK)
	wantOpen(t, d, p, 2, pr("k", big))
}

// The sectors are written in order, flushed, then the checkpoint, then the head: each that ended is seen ahead of the next one.
func TestFormatWhenThePowerGoes(t *testing.T) {
	for _, p := range []place{{0, 6}, {1, 9}, {2, 10}} {
		old := []byte(strings.Repeat("\xee", 12*size))
		last := formatted(old, p)
		at, _ := p.area(1)
		for cut := range p.count + 2 {
			for _, pick := range []uint64{math.MaxUint64, 0, 1, 2, 0b101, 0xaaaa, 1 << 63} {
				d := sector.Load(old)
				d.Cut(cut, pick)
				wantNoFormat(t, d, p, api.ErrDead)
				if !d.Dead() {
					t.Fatal("the power is there")
				}
				image := []byte(string(old))
				for k := range p.count {
					if cut >= p.count || k < cut && pick>>k&1 == 1 { // all are flushed, or those that the pick lays down
						copy(image[size*(p.from+k):], padded(nil))
					}
				}
				if cut > p.count {
					copy(image[size*at:], sectorOf(last, at)) // the checkpoint is flushed ahead of the head
				}
				wantLaid(t, d, image)
				d.On()
				wantNoOpen(t, d, p, api.ErrForm)
				want(t, format(t, d, p), 1, nil)
				wantLaid(t, d, last)
			}
		}
		d := sector.Load(old)
		d.Cut(p.count+2, 0) // it goes behind all of them
		want(t, format(t, d, p), 1, nil)
		d.Lose(0)
		wantLaid(t, d, last)
	}
}

// The power goes ahead of each of the three flushes: any of the sectors that are written may have been laid down.
func TestFormatWhenThePowerGoesAtAFlush(t *testing.T) {
	p := place{1, 9}
	old := []byte(strings.Repeat("\xee", 11*size))
	last := formatted(old, p)
	at, _ := p.area(1)
	clear := []byte(string(last))
	for _, k := range []int{at, p.headAt(1)} {
		copy(clear[size*k:], padded(nil))
	}
	var row []int
	for k := range p.count {
		row = append(row, p.from+k)
	}
	for pick := range uint64(1) << p.count {
		wantNoOpen(t, sector.Load(mixed(old, clear, row, pick)), p, api.ErrForm)
	}
	wantNoOpen(t, sector.Load(mixed(clear, last, []int{at}, 0)), p, api.ErrForm)
	wantNoOpen(t, sector.Load(mixed(clear, last, []int{at}, 1)), p, api.ErrForm)
	wantOpen(t, sector.Load(mixed(clear, last, []int{at, p.headAt(1)}, 3)), p, 1, nil)
}
