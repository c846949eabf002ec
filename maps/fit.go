package maps

import (
	"cmp"
	"slices"

	"reef/api"
)

// within tells whether a number is from least to most.
func within[T int | int64](x, least, most T) bool { return least <= x && x <= most }

// fitId tells whether a number is a storage node's, or a host's: there are no more hosts than nodes.
func fitId(id int) bool { return within(id, 0, api.MaxOsds-1) }

// fitBoot tells whether a number is a boot number that was used, or an instance.
func fitBoot(n int64) bool { return within(n, 1, api.MaxBoot) }

func fitWeight(n int64) bool { return within(n, 0, api.MaxWeight) }

func fitHosts(hosts []int) bool {
	unfit := func(h int) bool { return !fitId(h) }
	return within(len(hosts), 1, api.MaxOsds) && !slices.ContainsFunc(hosts, unfit)
}

// fitOsds tells whether a map has as many storage nodes as hosts, all of them fit at its epoch.
func fitOsds(m api.Map) bool {
	unfit := func(o api.Osd) bool {
		return !fitBoot(o.Boot) && (o.Boot != 0 || o.Up) || !fitWeight(o.Weight) || !within(o.UpThru, 0, m.Epoch)
	}
	return len(m.Osds) == len(m.Hosts) && !slices.ContainsFunc(m.Osds, unfit)
}

func fitPools(l []api.Pool) bool {
	unfit := func(p api.Pool) bool { return !Pool(p) }
	return len(l) <= api.MaxPools && !slices.ContainsFunc(l, unfit)
}

func fitBan(b api.Ban) bool { return within(b.Client, 0, api.MaxClients-1) && fitBoot(b.Inst) }

// orderBans compares bans by their clients, then by the instances.
func orderBans(a, b api.Ban) int {
	return cmp.Or(cmp.Compare(a.Client, b.Client), cmp.Compare(a.Inst, b.Inst))
}

// fitBans tells whether bans are fit, rise, and are not too many.
func fitBans(l []api.Ban) bool {
	for i, b := range l {
		if !fitBan(b) || i > 0 && orderBans(l[i-1], b) >= 0 {
			return false
		}
	}
	return len(l) <= api.MaxBans
}

// ofOsd tells whether a change has a storage node, and nothing beside that, its kind and its number.
func ofOsd(c api.Inc) bool {
	return c == api.Inc{Kind: c.Kind, Osd: c.Osd, Num: c.Num} && fitId(c.Osd)
}

// banOf is the ban of a change that is one.
func banOf(c api.Inc) api.Ban { return api.Ban{Client: c.Client, Inst: c.Num} }
