package maps

import (
	"math"
	"slices"
	"testing"

	"reef/api"
)

// P13.1, of Fit, Pool and Inc

func wantFit(t *testing.T, m api.Map, is bool) {
	t.Helper()
	in := laid(m)
	if Fit(in) != is {
		t.Errorf("Fit(%+v): %v", m, !is)
	}
	wantLaid(t, in, m)
}

// wantFits asks of a map in which a number is laid by hand, whether it is fit just from least to most.
func wantFits(t *testing.T, m api.Map, least, most int64, lay func(m *api.Map, n int64)) {
	t.Helper()
	for _, n := range append(odd(), least-1, least, most, most+1) {
		wantFit(t, with(m, func(m *api.Map) { lay(m, n) }), least <= n && n <= most)
	}
}

func TestFit(t *testing.T) {
	for _, m := range []api.Map{plain(), mixed(), full()} {
		wantFit(t, m, true)
	}
	wantFit(t, api.Map{}, false)
	wantFit(t, api.Map{Hosts: []int{}, Osds: []api.Osd{}, Pools: []api.Pool{}, Bans: []api.Ban{}}, false)
	wantFit(t, with(plain(), func(m *api.Map) { m.Pools, m.Bans = []api.Pool{}, []api.Ban{} }), true)
	wantFit(t, api.Map{Hosts: []int{7}, Osds: []api.Osd{{}}}, true)
}

func TestFitEpoch(t *testing.T) {
	wantFits(t, plain(), 0, 4096, func(m *api.Map, n int64) { m.Epoch = n })
	wantFits(t, mixed(), 8, 4096, func(m *api.Map, n int64) { m.Epoch = n }) // an UpThru of 8 is there
}

func TestFitHosts(t *testing.T) {
	for _, hosts := range someHosts() {
		wantFit(t, api.Map{Hosts: hosts, Osds: make([]api.Osd, len(hosts))}, true)
	}
	for _, hosts := range noHosts() {
		wantFit(t, api.Map{Hosts: hosts, Osds: make([]api.Osd, len(hosts))}, false)
	}
	for i := range 4 {
		wantFits(t, mixed(), 0, 7, func(m *api.Map, n int64) { m.Hosts[i] = int(n) })
	}
}

func TestFitCountOfOsds(t *testing.T) {
	for n := range 10 {
		wantFit(t, with(plain(), func(m *api.Map) { m.Osds = make([]api.Osd, n) }), n == 3)
		wantFit(t, with(plain(), func(m *api.Map) { m.Hosts = make([]int, n) }), n == 3)
	}
	wantFit(t, with(mixed(), func(m *api.Map) { m.Osds = m.Osds[:3] }), false)
	wantFit(t, with(mixed(), func(m *api.Map) { m.Hosts = append(m.Hosts, 0) }), false)
	wantFit(t, with(mixed(), func(m *api.Map) { m.Osds = nil }), false)
	wantFit(t, with(mixed(), func(m *api.Map) { m.Hosts = nil }), false)
}

func TestFitOsds(t *testing.T) {
	for i := range 4 {
		wantFits(t, mixed(), 1, last, func(m *api.Map, n int64) { m.Osds[i].Boot, m.Osds[i].Up = n, true })
		wantFits(t, mixed(), 0, last, func(m *api.Map, n int64) { m.Osds[i].Boot, m.Osds[i].Up = n, false })
		wantFits(t, mixed(), 0, wide, func(m *api.Map, n int64) { m.Osds[i].Weight = n })
		wantFits(t, mixed(), 0, 9, func(m *api.Map, n int64) { m.Osds[i].UpThru = n })
	}
	wantFits(t, plain(), 0, 0, func(m *api.Map, n int64) { m.Osds[2].UpThru = n })
	wantFits(t, full(), 0, end-1, func(m *api.Map, n int64) { m.Osds[7].UpThru = n })
	wantFits(t, full(), 0, wide, func(m *api.Map, n int64) { m.Osds[7].Weight = n })
}

func TestFitPools(t *testing.T) {
	can, not := api.Pool{Size: 2, Min: 1, PGs: 4, Domain: 1}, api.Pool{Size: 2, Min: 3, PGs: 4, Domain: 1}
	for n := range 5 {
		wantFit(t, with(plain(), func(m *api.Map) { m.Pools = slices.Repeat([]api.Pool{can}, n) }), n <= 2)
	}
	for _, l := range [][]api.Pool{{not}, {can, not}, {not, can}, {{}}, {can, {}}, {can, can, not}} {
		wantFit(t, with(plain(), func(m *api.Map) { m.Pools = l }), false)
	}
	for i := range 2 {
		wantFits(t, full(), 1, 8, func(m *api.Map, n int64) { m.Pools[i].PGs = int(n) })
		wantFits(t, full(), 1, 2, func(m *api.Map, n int64) { m.Pools[i].Domain = int(n) })
		wantFits(t, full(), 1, int64(1+2*i), func(m *api.Map, n int64) { m.Pools[i].Min = int(n) })
		wantFits(t, full(), int64(1+2*i), 3, func(m *api.Map, n int64) { m.Pools[i].Size = int(n) })
	}
}

// manyBans is so many bans that rise.
func manyBans(n int) []api.Ban {
	var l []api.Ban
	for i := range n {
		l = append(l, api.Ban{Client: i / 20, Inst: int64(1 + i%20)})
	}
	return l
}

func TestFitCountOfBans(t *testing.T) {
	for _, n := range []int{0, 1, 2, 63, 64, 65, 66, 80} {
		wantFit(t, with(plain(), func(m *api.Map) { m.Bans = manyBans(n) }), n <= 64)
	}
}

func TestFitBans(t *testing.T) {
	one := with(plain(), func(m *api.Map) { m.Bans = []api.Ban{{Client: 1, Inst: 5}} })
	wantFits(t, one, 0, 3, func(m *api.Map, n int64) { m.Bans[0].Client = int(n) })
	wantFits(t, one, 1, last, func(m *api.Map, n int64) { m.Bans[0].Inst = n })
	wantFits(t, full(), 1, 2, func(m *api.Map, n int64) { m.Bans[0].Inst = n })
	wantFits(t, full(), 4, 6, func(m *api.Map, n int64) { m.Bans[2].Inst = n })
	wantFits(t, full(), 30, last, func(m *api.Map, n int64) { m.Bans[63].Inst = n })
	wantFits(t, full(), 3, 3, func(m *api.Map, n int64) { m.Bans[63].Client = int(n) })
}

func TestFitOrderOfBans(t *testing.T) {
	l := []api.Ban{{Client: 0, Inst: last}, {Client: 1, Inst: 1}, {Client: 1, Inst: 3}, {Client: 3, Inst: 2}}
	for i := range l {
		wantFit(t, with(plain(), func(m *api.Map) { m.Bans = l }), true)
		wantFit(t, with(plain(), func(m *api.Map) { m.Bans = slices.Delete(slices.Clone(l), i, i+1) }), true)
		wantFit(t, with(plain(), func(m *api.Map) { m.Bans = slices.Insert(slices.Clone(l), i, l[i]) }), false) // twice
		for k := range i {
			swapped := slices.Clone(l)
			swapped[i], swapped[k] = l[k], l[i]
			wantFit(t, with(plain(), func(m *api.Map) { m.Bans = swapped }), false)
		}
	}
}

func TestPool(t *testing.T) {
	for size := -1; size < 6; size++ {
		for min := -1; min < 6; min++ {
			for pgs := -1; pgs < 11; pgs++ {
				for domain := -1; domain < 5; domain++ {
					p := api.Pool{Size: size, Min: min, PGs: pgs, Domain: domain}
					if Pool(p) != poolByWords(p) {
						t.Fatalf("Pool(%+v): %v", p, Pool(p))
					}
				}
			}
		}
	}
}

func TestPoolOfOddNumbers(t *testing.T) {
	for _, n := range odd() {
		p := api.Pool{Size: 3, Min: 2, PGs: 4, Domain: 2}
		for i, at := range []*int{&p.Size, &p.Min, &p.PGs, &p.Domain} {
			was := *at
			*at = int(n)
			if is := []bool{n == 2 || n == 3, n >= 1 && n <= 3, n >= 1 && n <= 8, n == 1 || n == 2}[i]; Pool(p) != is {
				t.Errorf("Pool(%+v): %v", p, !is)
			}
			*at = was
		}
	}
	if Pool(api.Pool{}) || Pool(api.Pool{Size: math.MaxInt, Min: 1, PGs: 1, Domain: 1}) || Pool(api.Pool{Size: math.MaxInt, Min: math.MaxInt, PGs: 1, Domain: 1}) {
		t.Error("pools that can't be")
	}
}

func wantInc(t *testing.T, c api.Inc, is bool) {
	t.Helper()
	if Inc(c) != is {
		t.Errorf("Inc(%+v): %v", c, !is)
	}
}

func TestInc(t *testing.T) {
	for _, c := range []api.Inc{
		boot(0, 1), boot(7, last), down(0, 1), down(7, last), weigh(0, 0), weigh(7, 1<<20), thru(0, 1), thru(7, 1<<30),
		pool(1, 1, 1, 1), pool(3, 3, 8, 2), ban(0, 1), ban(3, 1<<30),
	} {
		wantInc(t, c, true)
	}
	for _, c := range []api.Inc{
		{}, boot(0, 0), boot(0, last+1), boot(8, 1), boot(-1, 1), down(0, 0), down(0, last+1), down(8, 1), down(-1, 1),
		weigh(0, -1), weigh(0, 1<<20+1), weigh(8, 1), weigh(-1, 1), thru(0, 0), thru(0, 1<<30+1), thru(8, 1), thru(-1, 1),
		pool(0, 0, 0, 0), pool(4, 1, 1, 1), pool(2, 3, 1, 1), pool(1, 1, 9, 1), pool(1, 1, 1, 3), ban(0, 0), ban(0, 1<<30+1), ban(4, 1), ban(-1, 1),
	} {
		wantInc(t, c, false)
	}
}

// Of each kind each field counts, whatever the number is.
func TestIncOfEachField(t *testing.T) {
	for _, c := range []api.Inc{boot(2, 3), down(2, 3), weigh(2, 3), thru(2, 3), pool(2, 1, 3, 1), ban(2, 3), {}} {
		for _, n := range odd() {
			for i := range 8 {
				d := c
				at := []*int{&d.Kind, &d.Osd, &d.Client, &d.Pool.Size, &d.Pool.Min, &d.Pool.PGs, &d.Pool.Domain}
				if i < len(at) {
					*at[i] = int(n)
				} else {
					d.Num = n
				}
				wantInc(t, d, incByWords(d))
			}
		}
	}
}

func TestIncOfFieldsOfOtherKinds(t *testing.T) {
	for kind := 1; kind < 7; kind++ {
		c := []api.Inc{boot(2, 3), down(2, 3), weigh(2, 3), thru(2, 3), pool(2, 1, 3, 1), ban(2, 3)}[kind-1]
		wantInc(t, c, true)
		for name, lay := range map[string]func(c *api.Inc){
			"Osd":    func(c *api.Inc) { c.Osd = 1 },
			"Client": func(c *api.Inc) { c.Client = 1 },
			"Num":    func(c *api.Inc) { c.Num = 1 },
			"Pool":   func(c *api.Inc) { c.Pool = api.Pool{Size: 1, Min: 1, PGs: 1, Domain: 1} },
			"Size":   func(c *api.Inc) { c.Pool = api.Pool{Size: 1} },
			"Min":    func(c *api.Inc) { c.Pool = api.Pool{Min: 1} },
			"PGs":    func(c *api.Inc) { c.Pool = api.Pool{PGs: 1} },
			"Domain": func(c *api.Inc) { c.Pool = api.Pool{Domain: 1} },
		} {
			is := map[string]bool{"Osd": kind <= 4, "Client": kind == 6, "Num": kind != 5, "Pool": kind == 5}[name]
			d := c
			lay(&d)
			wantInc(t, d, is)
		}
	}
}
