package store

import (
	"math/rand"
	"slices"
	"strconv"
	"testing"

	"reef/api"
	"reef/extent"
	"reef/sector"
)

// P10.8

// Free sectors and those of all long values are all data sectors, each once.
func TestEachSectorIsFreeOrAValues(t *testing.T) {
	r := rand.New(rand.NewSource(104))
	for range 60 {
		head, total := 40+r.Intn(60), r.Intn(60)
		d := sector.New(head + total)
		s := format(t, d, head)
		for range 60 {
			s.Apply(changes(r))
			for _, o := range []*Store{s, open(t, d, head)} {
				n := o.Free()
				all := extent.Sectors(o.free)
				for _, name := range o.Names("", "") {
					l := extent.Sectors(o.Where(name))
					n += len(l)
					all = append(all, l...)
				}
				slices.Sort(all)
				if n != total || !o.Sound() || !slices.Equal(all, extent.Sectors(extent.All(total))) {
					t.Fatalf("%d of %d: %d", n, total, all)
				}
				if !extent.Fit(total, o.free) {
					t.Fatalf("free: %d", o.free)
				}
			}
		}
	}
}

// P10.9

// Each Apply comes to what the model comes to, on the device byte by byte to what is written by hand.
func TestByChance(t *testing.T) {
	r := rand.New(rand.NewSource(105))
	spaces, pieces := 0, 0
	for range 120 {
		head, total := 200, 6+r.Intn(20)
		d, twin := sector.New(head+total), sector.New(head+total)
		s := format(t, d, head)
		format(t, twin, head)
		keys := openKeys(t, twin, head)
		m := empty(total)
		for range 60 {
			l := changes(r)
			x, fits := m.apply(l)
			if !fits {
				spaces++
				wantSilent(t, d, func() { wantApply(t, s, l, api.ErrSpace) })
				want(t, s, m)
				continue
			}
			wantApply(t, s, l, api.OK)
			if e := x.byHand(twin, keys, head); e != api.OK {
				t.Fatalf("by hand: %v", e)
			}
			wantAlike(t, d, twin)
			for name := range x.places {
				if len(x.where(name)) > 1 {
					pieces++
				}
			}
			for name, v := range m.values { // others are as they were
				if x.values[name] == v && !slices.ContainsFunc(l, func(p api.Put) bool { return p.Name == name }) {
					wantGet(t, s, name, v, api.OK)
					if !slices.Equal(s.Where(name), m.where(name)) {
						t.Fatalf("%q has moved", name)
					}
				}
			}
			m = x.model
			want(t, s, m)
			wantLaid(t, d, head, m)
		}
		want(t, open(t, d, head), m)
	}
	if spaces < 100 || pieces < 100 {
		t.Fatalf("%d without room, %d values in pieces", spaces, pieces)
	}
}

// As many values as may be, in one Apply, that change places in the next ones.
func TestManyValuesAtOnce(t *testing.T) {
	head, total := 2400, api.MaxSectors-2400
	d := sector.New(api.MaxSectors)
	s := format(t, d, head)
	var l, more, odd []api.Put
	for i := range total / 4 {
		name := strconv.Itoa(i)
		l = append(l, api.Put{Name: name, Value: body(65+i%60, byte(i))})
		more = append(more, api.Put{Name: name, Value: body(65+i%64, byte(i+1))})
		if i%2 == 1 {
			odd = append(odd, api.Put{Name: name, Gone: true})
		}
	}
	m := empty(total)
	for _, x := range [][]api.Put{l, more, odd, l, sets("one", body(700*size, 3)), goes("one")} {
		m = wantDone(t, d, s, m, x)
	}
	wantFree(t, s, total/2)
}
