package past

import (
	"fmt"
	"math"
	"math/rand"
	"slices"
	"testing"

	"reef/api"
	"reef/hash"
	"reef/maps"
	"reef/rule"
)

const (
	one = 65536 // a weight of one
	end = 4096  // a map's last epoch
)

func boot(osd int, n int64) api.Inc   { return api.Inc{Kind: api.IcBoot, Osd: osd, Num: n} }
func down(osd int, n int64) api.Inc   { return api.Inc{Kind: api.IcDown, Osd: osd, Num: n} }
func weigh(osd int, n int64) api.Inc  { return api.Inc{Kind: api.IcWeight, Osd: osd, Num: n} }
func thru(osd int, n int64) api.Inc   { return api.Inc{Kind: api.IcThru, Osd: osd, Num: n} }
func ban(client int, n int64) api.Inc { return api.Inc{Kind: api.IcBan, Client: client, Num: n} }

func pool(size, min, pgs, domain int) api.Inc {
	return api.Inc{Kind: api.IcPool, Pool: api.Pool{Size: size, Min: min, PGs: pgs, Domain: domain}}
}

// texts are the texts of some changes.
func texts(l ...api.Inc) []string {
	var values []string
	for _, c := range l {
		values = append(values, maps.Encode(c))
	}
	return values
}

// noTexts is values that tell an error.
func noTexts() []string {
	return []string{"", "x", "\x00\x00\x00\x00\x00\x00\x00\x00", "\x01\x01\x00\x03\x00\x00\x00\x00\x00", "\x09\x00\x00\x00\x00\x00\x00\x00", "\x01\x08\x00\x03\x00\x00\x00\x00"}
}

// plain is five storage nodes on three hosts, all up, and two pools.
func plain() api.Map {
	return api.Map{
		Epoch: 9,
		Hosts: []int{0, 0, 1, 1, 2},
		Osds:  []api.Osd{{Boot: 1, Up: true, Weight: one}, {Boot: 2, Up: true, Weight: one, UpThru: 5}, {Boot: 3, Up: true, Weight: one}, {Boot: 4, Up: true, Weight: one}, {Boot: 1 << 30, Up: true, Weight: one, UpThru: 9}},
		Pools: []api.Pool{{Size: 3, Min: 2, PGs: 8, Domain: api.DmHost}, {Size: 2, Min: 1, PGs: 3, Domain: api.DmOsd}},
		Bans:  []api.Ban{{Client: 1, Inst: 2}},
	}
}

// with is a map that was changed by hand.
func with(m api.Map, change func(m *api.Map)) api.Map {
	m = own(m)
	change(&m)
	return m
}

// ups is a map of whose storage nodes just those of a set of bits are up.
func ups(m api.Map, set int) api.Map {
	return with(m, func(m *api.Map) {
		for id := range m.Osds {
			m.Osds[id].Up = set>>id&1 == 1
		}
	})
}

// own is a map in memory of its own.
func own(m api.Map) api.Map {
	m.Hosts, m.Osds = slices.Clone(m.Hosts), slices.Clone(m.Osds)
	m.Pools, m.Bans = slices.Clone(m.Pools), slices.Clone(m.Bans)
	return m
}

// spare is a list with spare room, in which something stands.
func spare[T any](l []T, x T) []T { return append(slices.Clone(l), x, x, x)[:len(l)] }

// laid is a map whose lists have spare room: one pool more stands there, one node more, which is up.
func laid(m api.Map) api.Map {
	m.Hosts, m.Osds = spare(m.Hosts, 5), spare(m.Osds, api.Osd{Boot: 5, Up: true, Weight: one})
	m.Pools, m.Bans = spare(m.Pools, api.Pool{Size: 1, Min: 1, PGs: 1, Domain: 1}), spare(m.Bans, api.Ban{Inst: 5})
	return m
}

// wantLaid asks for a laid map that is as it was.
func wantLaid(t *testing.T, m, was api.Map) {
	t.Helper()
	room := func(m api.Map) string {
		return fmt.Sprint(m.Epoch, m.Hosts[:len(m.Hosts)+3], m.Osds[:len(m.Osds)+3], m.Pools[:len(m.Pools)+3], m.Bans[:len(m.Bans)+3])
	}
	if room(m) != room(laid(was)) {
		t.Fatalf("what went in is %+v; want %+v", m, was)
	}
}

// fill lays something over a list and its spare room.
func fill[T any](l []T, x T) {
	l = l[:cap(l)]
	for i := range l {
		l[i] = x
	}
}

// odd is numbers near a bound of any kind.
func odd() []int {
	return []int{
		math.MinInt, math.MinInt + 1, -1 << 32, -1<<32 + 1, -1 << 31, -8, -2, -1, 0, 1, 2, 3, 4, 5, 6, 7, 8, 9, 63, 64, 255, 256,
		end - 1, end, end + 1, 1<<31 - 1, 1 << 31, 1<<32 - 1, 1 << 32, 1<<32 + 1, 1 << 62, math.MaxInt - 1, math.MaxInt,
	}
}

// is tells whether a PG is one of a map, by the chapter's words.
func is(m api.Map, pg api.Pg) bool {
	for pool, p := range m.Pools {
		for num := 0; num < p.PGs; num++ {
			if pg.Pool == pool && pg.Num == num {
				return true
			}
		}
	}
	return false
}

// rawByWords is what rule.Place gives of a PG.
func rawByWords(m api.Map, pg api.Pg) []int {
	if !is(m, pg) {
		return nil
	}
	var weights []int64
	for _, o := range m.Osds {
		weights = append(weights, o.Weight)
	}
	p := m.Pools[pg.Pool]
	return rule.Place(m.Hosts, weights, hash.Words(uint32(pg.Pool), uint32(pg.Num)), p.Size, p.Domain)
}

// actingByWords is what of that is up, and the boot numbers.
func actingByWords(m api.Map, pg api.Pg) ([]int, []int64) {
	var l []int
	var boots []int64
	for _, id := range rawByWords(m, pg) {
		if m.Osds[id].Up {
			l, boots = append(l, id), append(boots, m.Osds[id].Boot)
		}
	}
	return l, boots
}

// intervalsByWords lays each epoch behind the one ahead, or begins an interval with it.
func intervalsByWords(hosts []int, values []string, pg api.Pg) []api.Interval {
	var l []api.Interval
	for n := 0; n <= min(len(values), end); n++ {
		m := maps.At(hosts, values[:n])
		if !is(m, pg) {
			continue
		}
		acting, boots := actingByWords(m, pg)
		if n := len(l); n == 0 || fmt.Sprint(acting, boots) != fmt.Sprint(l[n-1].Acting, l[n-1].Boots) {
			l = append(l, api.Interval{First: m.Epoch, Acting: acting, Boots: boots})
		}
		x := &l[len(l)-1]
		x.Last = m.Epoch
		x.May = len(acting) > 0 && len(acting) >= m.Pools[pg.Pool].Min && m.Osds[acting[0]].UpThru >= x.First
	}
	return l
}

// pick is one of some things.
func pick[T any](r *rand.Rand, l ...T) T { return l[r.Intn(len(l))] }

// chanceHosts is hosts that are hosts, mostly few.
func chanceHosts(r *rand.Rand) []int {
	l := make([]int, 1+r.Intn(8))
	for i := range l {
		l[i] = r.Intn(len(l))
	}
	return l
}

// chancePool is a pool that can be.
func chancePool(r *rand.Rand) api.Pool {
	size := 1 + r.Intn(3)
	return api.Pool{Size: size, Min: 1 + r.Intn(size), PGs: 1 + r.Intn(8), Domain: 1 + r.Intn(2)}
}

// chanceInc is a change as it may be of use to a map: mostly nodes go up and down, and are told of.
func chanceInc(r *rand.Rand, m api.Map) api.Inc {
	osd := r.Intn(len(m.Osds))
	o := m.Osds[osd]
	switch r.Intn(12) {
	case 0, 1, 2, 3:
		return boot(osd, o.Boot+1)
	case 4, 5:
		return down(osd, max(1, o.Boot))
	case 6, 7, 8:
		return thru(osd, max(1, m.Epoch-r.Int63n(4)))
	case 9:
		return weigh(osd, pick[int64](r, 0, 1, one, 2*one, 1<<20))
	case 10:
		return ban(r.Intn(4), 1+r.Int63n(40))
	}
	return api.Inc{Kind: api.IcPool, Pool: chancePool(r)}
}

// chanceValues is n values that go on from one another, some of which tell an error.
func chanceValues(r *rand.Rand, hosts []int, n int) []string {
	m := maps.First(hosts)
	var values []string
	for len(values) < n {
		c := chanceInc(r, m)
		values = append(values, maps.Encode(c))
		if r.Intn(10) == 0 {
			c, values[len(values)-1] = api.Inc{}, pick(r, noTexts()...)
		}
		m = maps.Apply(m, c)
	}
	return values
}

// chanceMap is the map behind some values, with a pool at least.
func chanceMap(r *rand.Rand) api.Map {
	hosts := chanceHosts(r)
	values := append(texts(api.Inc{Kind: api.IcPool, Pool: chancePool(r)}), chanceValues(r, hosts, r.Intn(50))...)
	return maps.At(hosts, values)
}

// somePgs is all PGs of two pools, and some that are none.
func somePgs() []api.Pg {
	l := []api.Pg{{Pool: -1}, {Pool: 2}, {Pool: 1 << 32}, {Num: -1}, {Pool: 1, Num: 8}, {Num: 1 << 32}}
	for pool := range 2 {
		for num := range 8 {
			l = append(l, api.Pg{Pool: pool, Num: num})
		}
	}
	return l
}

// noHosts is hosts that are none.
func noHosts() [][]int {
	return [][]int{nil, {}, make([]int, 9), make([]int, 5000), {-1}, {8}, {0, 1, 1 << 32}, {0, 7, math.MinInt, 0}}
}
