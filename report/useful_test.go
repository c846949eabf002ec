package report

import (
	"math/rand"
	"testing"

	"reef/api"
	"reef/maps"
)

// P17.1

func TestUseful(t *testing.T) {
	m := mixed()
	wantUseful(t, m, true, boot(0, 4), boot(1, 1), boot(2, 6), boot(4, last))
	wantUseful(t, m, false, boot(0, 3), boot(0, 2), boot(2, 5), boot(3, last), boot(6, 1), boot(7, last))
	wantUseful(t, m, true, drop(0, 3), drop(3, last), drop(4, 1), drop(5, 3))
	wantUseful(t, m, false, drop(0, 2), drop(0, 4), drop(2, 5), drop(1, 1), drop(6, 1))
	wantUseful(t, m, true, thru(0, 9), thru(3, 1), thru(3, 9))
	wantUseful(t, m, false, thru(0, 8), thru(0, 10), thru(5, 9), thru(2, 3), thru(6, 1))
	wantUseful(t, m, true, pool(3, 2, 4, 2), pool(1, 1, 1, 1), pool(3, 2, 8, 2))
	wantUseful(t, with(m, func(m *api.Map) { m.Pools = append(m.Pools, m.Pools[0]) }), false, pool(3, 2, 4, 2), pool(1, 1, 1, 1))
	wantUseful(t, m, true, ban(0, 6), ban(2, 2), ban(3, 1))
	wantUseful(t, m, false, ban(0, 7), ban(1, 2), ban(3, last))
}

func TestUsefulWeight(t *testing.T) {
	m := mixed()
	wantUseful(t, m, true, weigh(0, 0), weigh(2, 0), weigh(3, 0), weigh(5, 0), weigh(0, 1), weigh(1, 1), weigh(1, wide), weigh(4, unit))
	wantUseful(t, m, false, weigh(1, 0), weigh(4, 0), weigh(0, unit), weigh(2, 1), weigh(3, wide), weigh(6, 0), weigh(7, 1))
}

// heavy is so many storage nodes, of which these have a weight of just one part.
func heavy(n int, osds ...int) api.Map {
	return with(up(n), func(m *api.Map) {
		for osd := range m.Osds {
			m.Osds[osd].Weight = 0
		}
		for _, osd := range osds {
			m.Osds[osd].Weight = 1
		}
	})
}

// The last weight stays: any other node's is enough, up or down, ahead of it or behind it.
func TestUsefulLastWeight(t *testing.T) {
	for n := 1; n <= 8; n++ {
		for osd := range n {
			wantUseful(t, heavy(n, osd), false, weigh(osd, 0), weigh(osd, 1), weigh((osd+1)%n, 0), weigh((osd+7)%n, 0))
			wantUseful(t, heavy(n, osd), true, weigh(osd, 2), weigh(osd, wide))
			wantUseful(t, heavy(n), false, weigh(osd, 0))
			wantUseful(t, heavy(n), true, weigh(osd, 1))
			for other := range n {
				if other == osd {
					continue
				}
				wantUseful(t, heavy(n, osd, other), true, weigh(osd, 0), weigh(other, 0), weigh(osd, 2))
				wantUseful(t, but(heavy(n, osd, other), other), true, weigh(osd, 0), weigh(other, 0))
				wantUseful(t, but(heavy(n, osd, other), osd, other), true, weigh(osd, 0))
			}
		}
	}
}

// Only of a weight of 0 the others are asked.
func TestUsefulOfOthersWithoutWeight(t *testing.T) {
	m := heavy(1)
	wantUseful(t, m, true, boot(0, 11), drop(0, 10), thru(0, 1), pool(1, 1, 1, 1), ban(1, 1), weigh(0, 1))
	m = heavy(1, 0)
	wantUseful(t, m, true, boot(0, 11), drop(0, 10), thru(0, 1), pool(1, 1, 1, 1), ban(0, 1), weigh(0, wide))
}

// usefulByWords tells whether a change is worth a value of a map that is below its last epoch.
func usefulByWords(m api.Map, c api.Inc) bool {
	next := maps.Apply(m, c)
	next.Epoch = m.Epoch
	if maps.Same(m, next) {
		return false
	}
	others := 0
	for osd, o := range m.Osds {
		if osd != c.Osd {
			others += int(o.Weight)
		}
	}
	return c.Kind != 3 || c.Num != 0 || others > 0
}

// What is no change never is useful.
func TestUsefulOfWhatIsNone(t *testing.T) {
	is := 0
	for _, m := range []api.Map{mixed(), up(1), up(3), heavy(2, 1)} {
		wantUseful(t, m, false, api.Inc{}, api.Inc{Kind: 7, Num: 1}, api.Inc{Kind: -1, Num: 1}, weigh(-1, 0), weigh(8, 0), weigh(0, -1), weigh(0, wide+1))
		for _, c := range []api.Inc{boot(1, last), drop(0, 3), weigh(0, 2), weigh(0, 0), thru(0, 9), pool(2, 1, 3, 1), ban(2, 3)} {
			for i := range 8 {
				for _, n := range odd() {
					d := c
					at := []*int{&d.Kind, &d.Osd, &d.Client, &d.Pool.Size, &d.Pool.Min, &d.Pool.PGs, &d.Pool.Domain}
					if i < len(at) {
						*at[i] = int(n)
					} else {
						d.Num = n
					}
					want := usefulByWords(m, d)
					wantUseful(t, m, want, d)
					if want {
						is++
					}
				}
			}
		}
	}
	if is < 100 {
		t.Error("useful ones:", is)
	}
}

// At the last epoch what maps.Changes says.
func TestUsefulAtTheLastEpoch(t *testing.T) {
	m := with(mixed(), func(m *api.Map) { m.Epoch = end })
	for _, c := range []api.Inc{{}, boot(0, 4), boot(0, 3), drop(0, 3), drop(0, 2), weigh(0, 0), weigh(1, 0), thru(0, end), thru(0, end+1), pool(1, 1, 1, 1), ban(0, 7), ban(0, 8)} {
		wantUseful(t, m, maps.Changes(m, c), c)
	}
}

func TestUsefulByWords(t *testing.T) {
	r := rand.New(rand.NewSource(17))
	is := map[bool]int{}
	for range 20000 {
		m := chanceMap(r)
		c := chanceInc(r, m)
		want := usefulByWords(m, c)
		wantUseful(t, m, want, c)
		is[want]++
	}
	if is[true] < 2000 || is[false] < 2000 {
		t.Error(is)
	}
}
