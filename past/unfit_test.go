package past

import (
	"math/rand"
	"slices"
	"testing"

	"reef/api"
)

// Of maps that are not fit nothing is promised but that calls end and do not panic (rule 0.1).

func callAll(m api.Map, pg api.Pg) {
	_, _, _, _ = Raw(m, pg), Acting(m, pg), Pgs(m), Clean(m, pg)
	for _, name := range []string{"", "a", "\xff"} {
		_, _ = Locate(m, pg.Pool, name)
	}
}

func TestUnfitPools(t *testing.T) {
	for _, n := range odd() {
		for _, p := range []api.Pool{
			{Size: n, Min: 1, PGs: 8, Domain: 1}, {Size: 3, Min: n, PGs: 8, Domain: 2}, {Size: 3, Min: 1, PGs: n, Domain: 2}, {Size: 3, Min: 1, PGs: 8, Domain: n}, {Size: n, Min: n, PGs: n, Domain: n},
		} {
			for _, num := range []int{-1, 0, 7, n - 1, n} {
				m := with(plain(), func(m *api.Map) { m.Pools = []api.Pool{p, p, p} })
				callAll(m, api.Pg{Num: num})
				callAll(m, api.Pg{Pool: 2, Num: num})
				callAll(m, api.Pg{Pool: n, Num: num})
			}
		}
	}
}

func TestUnfitNodes(t *testing.T) {
	r := rand.New(rand.NewSource(10))
	for range 500 {
		m := with(plain(), func(m *api.Map) {
			m.Hosts, m.Osds = make([]int, r.Intn(12)), make([]api.Osd, r.Intn(12))
			for i := range m.Hosts {
				m.Hosts[i] = pick(r, odd()...)
			}
			for i := range m.Osds {
				m.Osds[i] = api.Osd{Boot: int64(pick(r, odd()...)), Up: r.Intn(2) == 0, Weight: int64(pick(r, odd()...)), UpThru: int64(pick(r, odd()...))}
			}
		})
		for _, pg := range somePgs() {
			callAll(m, pg)
		}
	}
	callAll(api.Map{}, api.Pg{})
	callAll(api.Map{Pools: plain().Pools}, api.Pg{})
	many := with(plain(), func(m *api.Map) {
		m.Hosts, m.Osds = slices.Repeat(m.Hosts, 1000), slices.Repeat(m.Osds, 1000)
		m.Pools = slices.Repeat(m.Pools, 1000)
	})
	callAll(many, api.Pg{Pool: 1000})
}
