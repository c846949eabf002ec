package store

import (
	"math"
	"testing"

	"reef/api"
	"reef/kv"
	"reef/sector"
)

// P10.1

// Of each device each head is what it is to kv: the error, or an empty store and the same bytes.
func TestFormat(t *testing.T) {
	for sectors := 1; sectors < 15; sectors++ {
		for _, head := range []int{math.MinInt, -1, 0, 1, 5, 6, 7, 8, 9, sectors - 1, sectors, sectors + 1, 4096, math.MaxInt} {
			d, twin := sector.New(sectors), sector.New(sectors)
			s, e := Format(d, head)
			if _, f := kv.Format(twin, 0, head); e != f || (s == nil) != (e != api.OK) {
				t.Fatalf("%d of %d: %v, %v; kv tells %v", head, sectors, s, e, f)
			}
			wantAlike(t, d, twin)
			if (e == api.OK) != (head >= 6 && head <= sectors) {
				t.Fatalf("%d of %d: %v", head, sectors, e)
			}
			if e == api.OK {
				want(t, s, empty(sectors-head))
				want(t, open(t, d, head), empty(sectors-head))
			}
		}
	}
}

func TestHeadsOfFiveAndSix(t *testing.T) {
	if s, e := Format(sector.New(20), 5); s != nil || e != api.ErrNumber {
		t.Fatalf("5: %v", e)
	}
	wantFree(t, format(t, sector.New(20), 6), 14)
}

// A device all of whose sectors are the head's has short values alone.
func TestNoDataSector(t *testing.T) {
	for _, sectors := range []int{6, 7, 30} {
		d := sector.New(sectors)
		s := format(t, d, sectors)
		m := wantDone(t, d, s, empty(0), sets("a", body(size, 1)))
		wantSilent(t, d, func() {
			wantApply(t, s, sets("b", body(size+1, 1)), api.ErrSpace)
			wantApply(t, s, sets("a", body(size+1, 1)), api.ErrSpace)
		})
		want(t, s, m)
		wantDone(t, d, s, m, goes("a"))
		wantSilent(t, d, func() { want(t, s, empty(0)) })
	}
}

func TestTheGreatestDevice(t *testing.T) {
	d := sector.New(api.MaxSectors)
	s := format(t, d, 6)
	m := wantDone(t, d, s, empty(api.MaxSectors-6), sets("all", body((api.MaxSectors-6)*size, 5)))
	wantFree(t, s, 0)
	wantDone(t, d, s, m, goes("all"))
}

func TestFormatWithoutPower(t *testing.T) {
	d := sector.New(20)
	d.Lose(0)
	for _, head := range []int{5, 6, 20, 21} {
		if s, e := Format(d, head); s != nil || e != api.ErrDead {
			t.Fatalf("%d without power: %v", head, e)
		}
		if s, e := Format(nil, head); s != nil || e != api.ErrDead {
			t.Fatalf("%d of no device: %v", head, e)
		}
		if s, e := Format(&sector.Device{}, head); s != nil || e != api.ErrDead {
			t.Fatalf("%d of a plain device: %v", head, e)
		}
	}
	for cut := range 12 { // ten zeros, the checkpoint, the head
		d, twin := sector.New(20), sector.New(20)
		d.Cut(cut, 0b101)
		twin.Cut(cut, 0b101)
		if s, e := Format(d, 10); s != nil || e != api.ErrDead {
			t.Fatalf("the power goes behind %d writes: %v", cut, e)
		}
		kv.Format(twin, 0, 10)
		wantAlike(t, d, twin)
	}
}

// What was there is gone, but for the bytes of the data sectors, which nobody asks for.
func TestFormatAnew(t *testing.T) {
	d := sector.New(20)
	s := format(t, d, 10)
	wantDone(t, d, s, empty(10), sets("a", body(300, 7), "b", "short"))
	old := d.Image()
	s = format(t, d, 10)
	want(t, s, empty(10))
	if string(d.Image()[10*size:]) != string(old[10*size:]) {
		t.Fatal("the data sectors are written")
	}
	wantDone(t, d, s, empty(10), sets("b", body(100, 9)))
	wantWhere(t, s, "b", 0, 2)
}

// Stores that nobody made.
func TestNobodysStore(t *testing.T) {
	for name, s := range map[string]*Store{"nil": nil, "plain": {}} {
		for range 2 {
			wantGet(t, s, "", "", api.ErrDead)
			wantGet(t, s, "a", "", api.ErrDead)
			wantApply(t, s, nil, api.ErrDead)
			wantApply(t, s, sets("a", "1"), api.ErrDead)
			wantApply(t, s, sets("a", body(100, 1)), api.ErrDead)
			wantApply(t, s, goes("a"), api.ErrDead)
			if len(s.Names("", "")) > 0 || len(s.Names("a", "b")) > 0 || len(s.Where("a")) > 0 || s.Free() != 0 || s.Sound() {
				t.Fatalf("%s: %q %d %d %v", name, s.Names("", ""), s.Where("a"), s.Free(), s.Sound())
			}
		}
	}
}
