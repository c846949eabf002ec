package store

import (
	"maps"
	"math"
	"math/rand"
	"slices"
	"testing"

	"reef/api"
	"reef/sector"
)

// start is a device with a store, and what that has.
type start struct {
	image []byte
	head  int
	model model
}

// starts is stores on which an Apply is to be done: on a head with room, on one where each commit begins a generation, and one of which the power cut an Apply short.
func starts(t *testing.T) []start {
	t.Helper()
	var l []start
	for _, head := range []int{40, 12} {
		d := sector.New(head + 20)
		s := format(t, d, head)
		m := wantDone(t, d, s, empty(20), sets("a", body(200, 1), "b", "old", "c", body(65, 2)))
		m = wantDone(t, d, s, m, append(goes("b"), sets("d", body(130, 3))...))
		m = wantDone(t, d, s, m, append(goes("c"), sets("b", body(64, 4))...))
		l = append(l, start{d.Image(), head, m})
		d.Cut(3, 0b110)
		wantApply(t, s, sets("a", body(300, 5)), api.ErrDead)
		l = append(l, start{d.Image(), head, m})
	}
	return l
}

// turns is Applies, each with all that may come together.
func turns() [][]api.Put {
	return [][]api.Put{
		nil,
		sets("b", "new"),
		goes("a", "b", "none"),
		sets("a", body(70, 11)),
		sets("a", "short now", "b", body(65, 12), "new", body(129, 13)),
		append(goes("d"), sets("a", body(400, 14), "c", "", "b", body(90, 15))...),
	}
}

// picks is all picks of up to so many sectors, or some of them.
func picks(sectors int) []uint64 {
	l := []uint64{math.MaxUint64}
	if sectors > 3 {
		return append(l, 0, 1, 2, 1<<(sectors-1), 1<<(sectors-1)-1, 0x5555, 0xaaaa, 1<<63)
	}
	for pick := range uint64(1) << sectors {
		l = append(l, pick)
	}
	return l
}

// wantOfNoUse asks of a store in which the power went that it tells what it had, and writes nothing.
func wantOfNoUse(t *testing.T, d *sector.Device, s *Store, m model) {
	t.Helper()
	left := 0
	for _, is := range m.free {
		if is {
			left++
		}
	}
	wantFree(t, s, left)
	for name, v := range m.values {
		if len(v) <= size {
			wantGet(t, s, name, v, api.OK)
		} else if d.Dead() {
			wantGet(t, s, name, "", api.ErrDead)
		}
		if !slices.Equal(s.Where(name), m.where(name)) {
			t.Fatalf("Where(%q): %d", name, s.Where(name))
		}
	}
	if l := s.Names("", ""); !slices.Equal(l, slices.Sorted(maps.Keys(m.values))) {
		t.Fatalf("Names: %q", l)
	}
	wantSilent(t, d, func() {
		for _, l := range [][]api.Put{nil, sets("z", "1"), sets("z", body(65, 1)), goes("a")} {
			wantApply(t, s, l, api.ErrDead)
		}
	})
}

// wantGoesOn asks of a store that was opened behind a loss that it goes on.
func wantGoesOn(t *testing.T, d *sector.Device, s *Store, m model) {
	t.Helper()
	for _, l := range [][]api.Put{sets("y", body(66, 21)), append(goes("y"), sets("z", body(100, 22))...), goes("a", "z")} {
		m = wantDone(t, d, s, m, l)
	}
}

// P10.7

// Each write of each Apply finds the power going, with picks of all kinds: the device has what is written by hand in the order that the chapter says, and Open tells what was ahead.
func TestPowerAtEachWrite(t *testing.T) {
	for _, x := range starts(t) {
		for _, l := range turns() {
			next, is := x.model.apply(l)
			if !is {
				t.Fatal("no room")
			}
			whole := sector.Load(x.image)
			wantApply(t, open(t, whole, x.head), l, api.OK)
			writes, _ := whole.Writes()
			for cut := range writes {
				for _, pick := range picks(cut) {
					d, twin := sector.Load(x.image), sector.Load(x.image)
					s, keys := open(t, d, x.head), openKeys(t, twin, x.head)
					d.Cut(cut, pick)
					twin.Cut(cut, pick)
					wantApply(t, s, l, api.ErrDead)
					if e := next.byHand(twin, keys, x.head); e != api.ErrDead {
						t.Fatalf("by hand: %v", e)
					}
					wantAlike(t, d, twin)
					wantOfNoUse(t, d, s, x.model)
					d.On()
					wantOfNoUse(t, d, s, x.model)
					o := open(t, d, x.head)
					want(t, o, x.model) // its last write was not done: it can't be there
					wantLaid(t, d, x.head, x.model)
					wantGoesOn(t, d, o, x.model)
				}
			}
			d := sector.Load(x.image)
			s := open(t, d, x.head)
			d.Cut(writes, 0)
			wantApply(t, s, l, api.OK)
			d.Lose(0)
			d.On()
			want(t, s, next.model)
			want(t, open(t, d, x.head), next.model)
			wantGoesOn(t, d, open(t, d, x.head), next.model)
		}
	}
}

// The power goes ahead of a flush, all its sectors being written: any of them may have been laid down. Of data sectors none is one that the keys tell of.
func TestPowerAtEachFlush(t *testing.T) {
	for _, x := range starts(t) {
		for _, l := range turns() {
			next, _ := x.model.apply(l)
			d := sector.Load(x.image)
			wantApply(t, open(t, d, x.head), l, api.OK)
			now := d.Image()
			var written []int
			for _, name := range next.longs {
				for _, k := range next.places[name] {
					written = append(written, x.head+k)
				}
			}
			for pick := range uint64(1) << min(len(written), 8) {
				image := slices.Clone(x.image)
				for i, k := range written {
					if pick>>(i%8)&1 == 1 {
						copy(image[size*k:], sectorOf(now, k))
					}
				}
				o := sector.Load(image)
				want(t, open(t, o, x.head), x.model)
			}
			// Ahead of the keys' flush, data sectors are laid down, all of them, and no head sector needs be.
			mixed := slices.Concat(x.image[:size*x.head], now[size*x.head:])
			want(t, open(t, sector.Load(mixed), x.head), x.model)
			want(t, open(t, sector.Load(now), x.head), next.model)
		}
	}
}

// The power goes again and again, at writes by chance: what is there is what was told, or what the Apply in which it went would have come to.
func TestPowerByChance(t *testing.T) {
	r := rand.New(rand.NewSource(103))
	spaces, deads := 0, 0
	for range 150 {
		head, total := 12+r.Intn(60), r.Intn(40)
		d := sector.New(head + total)
		s := format(t, d, head)
		m := empty(total)
		for range 40 {
			l := changes(r)
			next, fits := m.apply(l)
			if r.Intn(3) == 0 {
				d.Cut(r.Intn(12), r.Uint64())
			}
			switch e := s.Apply(l); e {
			case api.OK:
				if !fits {
					t.Fatal("OK, where there is no room")
				}
				m = next.model
			case api.ErrDead:
				deads++
				wantOfNoUse(t, d, s, m)
				d.On()
				s = open(t, d, head)
			case api.ErrSpace:
				spaces++
			default:
				t.Fatalf("%v", e)
			}
			d.Cut(-1, 0)
			if r.Intn(10) == 0 { // it goes between two calls
				d.Lose(r.Uint64())
				d.On()
			}
			want(t, s, m)
			wantLaid(t, d, head, m)
			want(t, open(t, d, head), m)
		}
	}
	if spaces < 100 || deads < 100 {
		t.Fatalf("%d without room, %d without power", spaces, deads)
	}
}
