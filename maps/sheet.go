package maps

import (
	"iter"
	"slices"

	"reef/api"
)

// sheet is a map in memory of its own, which changes are written on.
type sheet struct{ m api.Map }

// copied is a sheet with a map.
func copied(m api.Map) *sheet {
	m.Hosts, m.Osds = slices.Clone(m.Hosts), slices.Clone(m.Osds)
	m.Pools, m.Bans = slices.Clone(m.Pools), slices.Clone(m.Bans)
	return &sheet{m}
}

// change does all of a change but the epoch, and tells whether that is anything.
func (s *sheet) change(c api.Inc) bool {
	deeds := [api.NumIcs]func(c api.Inc) bool{
		api.IcBoot:   s.boot,
		api.IcDown:   s.down,
		api.IcWeight: s.weigh,
		api.IcThru:   s.thru,
		api.IcPool:   s.pool,
		api.IcBan:    s.ban,
	}
	return Inc(c) && deeds[c.Kind](c)
}

// next goes on to the next epoch, if there is one.
func (s *sheet) next(c api.Inc) {
	if s.m.Epoch < api.MaxCommits {
		s.change(c)
		s.m.Epoch++
	}
}

// osd is where a change's storage node stands; false, if the map has none such.
func (s *sheet) osd(c api.Inc) (*api.Osd, bool) {
	if c.Osd >= len(s.m.Osds) {
		return nil, false
	}
	return &s.m.Osds[c.Osd], true
}

func (s *sheet) boot(c api.Inc) bool {
	o, is := s.osd(c)
	if !is || c.Num <= o.Boot {
		return false
	}
	o.Boot, o.Up = c.Num, true
	return true
}

func (s *sheet) down(c api.Inc) bool {
	o, is := s.osd(c)
	if !is || !o.Up || c.Num != o.Boot {
		return false
	}
	o.Up = false
	return true
}

func (s *sheet) weigh(c api.Inc) bool {
	o, is := s.osd(c)
	if !is || c.Num == o.Weight {
		return false
	}
	o.Weight = c.Num
	return true
}

func (s *sheet) thru(c api.Inc) bool {
	o, is := s.osd(c)
	if !is || !o.Up || c.Num <= o.UpThru || c.Num > s.m.Epoch {
		return false
	}
	o.UpThru = c.Num
	return true
}

func (s *sheet) pool(c api.Inc) bool {
	if len(s.m.Pools) >= api.MaxPools {
		return false
	}
	s.m.Pools = append(s.m.Pools, c.Pool)
	return true
}

func (s *sheet) ban(c api.Inc) bool {
	i, is := slices.BinarySearchFunc(s.m.Bans, banOf(c), orderBans)
	if is || len(s.m.Bans) >= api.MaxBans {
		return false
	}
	s.m.Bans = slices.Insert(s.m.Bans, i, banOf(c))
	return true
}

// epochs ranges over the maps of all epochs, from the first one on. One sheet is written on all along: whoever keeps a map that others came behind keeps a copy.
func epochs(hosts []int, values []string) iter.Seq[api.Map] {
	return func(yield func(api.Map) bool) {
		if !fitHosts(hosts) {
			return
		}
		s := sheet{First(hosts)}
		for _, v := range values[:min(len(values), api.MaxCommits)] {
			if !yield(s.m) {
				return
			}
			c, _ := Decode(v) // beside an error the zero change, which changes nothing
			s.next(c)
		}
		yield(s.m)
	}
}
