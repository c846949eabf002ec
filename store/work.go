package store

import (
	"iter"
	"maps"
	"slices"

	"reef/api"
	"reef/extent"
)

// work is what changes come to: long values to be written, keys to be committed, and what changes of the store when all of that is on the device.
type work struct {
	free   []api.Extent // what no long value lies in, neither of those that are there nor of those that are set
	longs  []long
	gone   []string
	sets   []api.Pair
	change func()
}

// wanted ranges over changes, of each name the last one, rising by name.
func wanted(l []api.Put) iter.Seq[api.Put] {
	last := map[string]api.Put{}
	for _, p := range l {
		last[p.Name] = p
	}
	return func(yield func(api.Put) bool) {
		for _, name := range slices.Sorted(maps.Keys(last)) {
			if !yield(last[name]) {
				return
			}
		}
	}
}

// plan reckons what changes come to, and does nothing as yet. What is replaced is not free ahead of the change: until then the keys tell of it.
func (s *Store) plan(l []api.Put) (work, api.Errno) {
	w := work{free: s.free}
	var back []api.Extent
	for p := range wanted(l) {
		old, is := s.find(p.Name)
		back = append(back, old.extents...)
		if !p.Gone {
			if e := w.set(p); e != api.OK {
				return work{}, e
			}
		} else if is {
			w.gone = append(w.gone, p.Name)
		}
	}
	free := w.free
	w.change = func() { s.free, _ = extent.Give(s.data.total(), free, back) }
	return w, api.OK
}

// set lays a value out: a long one takes sectors of what is free.
func (w *work) set(p api.Put) api.Errno {
	v := value{text: p.Value}
	if n := len(p.Value); n > api.MaxShort {
		at, left, e := extent.Take(w.free, need(n))
		if e != api.OK {
			return e
		}
		v = value{size: n, extents: at}
		w.free, w.longs = left, append(w.longs, long{at, p.Value})
	}
	w.sets = append(w.sets, api.Pair{Key: p.Name, Value: v.bytes()})
	return api.OK
}
