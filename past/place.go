package past

import (
	"slices"

	"reef/api"
	"reef/maps"
)

// poolAt is a pool of a map; false, if it has none such that can be.
func poolAt(m api.Map, pool int) (api.Pool, bool) {
	if pool < 0 || pool >= len(m.Pools) || !maps.Pool(m.Pools[pool]) {
		return api.Pool{}, false
	}
	return m.Pools[pool], true
}

// poolOf is a PG's pool; false, if it is no PG of the map.
func poolOf(m api.Map, pg api.Pg) (api.Pool, bool) {
	p, is := poolAt(m, pg.Pool)
	if !is || pg.Num < 0 || pg.Num >= p.PGs {
		return api.Pool{}, false
	}
	return p, true
}

// weights is each storage node's weight.
func weights(m api.Map) []int64 {
	var l []int64
	for _, o := range m.Osds {
		l = append(l, o.Weight)
	}
	return l
}

// member is a storage node of an acting set, and the boot number that it is up with.
type member struct {
	osd  int
	boot int64
}

// members are those of some storage nodes that are up, in their order.
func members(m api.Map, nodes []int) []member {
	var set []member
	for _, id := range nodes {
		if o := m.Osds[id]; o.Up {
			set = append(set, member{id, o.Boot})
		}
	}
	return set
}

// apart is a set's storage nodes, and their boot numbers.
func apart(set []member) ([]int, []int64) {
	var acting []int
	var boots []int64
	for _, x := range set {
		acting, boots = append(acting, x.osd), append(boots, x.boot)
	}
	return acting, boots
}

// among is those of a list that stand in a rising one.
func among(l, rising []int) []int {
	var some []int
	for _, id := range l {
		if _, is := slices.BinarySearch(rising, id); is {
			some = append(some, id)
		}
	}
	return some
}
