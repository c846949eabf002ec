package past

import (
	"iter"
	"slices"

	"reef/api"
)

// since is a history from the first map on of which a PG is one: pools are never taken out again.
func since(history []api.Map, pg api.Pg) []api.Map {
	for i, m := range history {
		if _, is := poolOf(m, pg); is {
			return history[i:]
		}
	}
	return nil
}

// epochs ranges over the members that a PG has at each epoch of a history, of whose maps it is one.
func epochs(history []api.Map, pg api.Pg) iter.Seq[[]member] {
	return func(yield func([]member) bool) {
		var raw []int
		var by []int64
		for _, m := range history {
			if w := weights(m); !slices.Equal(w, by) { // within a history the choice hangs on nothing else, and it takes the most time
				raw, by = Raw(m, pg), w
			}
			if !yield(members(m, raw)) {
				return
			}
		}
	}
}

// stay is the members that a PG has at a history's first epoch, and for how many epochs they stay.
func stay(history []api.Map, pg api.Pg) ([]member, int) {
	var set []member
	n := 0
row:
	for now := range epochs(history, pg) {
		switch {
		case n == 0:
			set = now
		case !slices.Equal(now, set):
			break row
		}
		n++
	}
	return set, n
}

// interval is that of a row of maps in which a PG has the same members.
func interval(row []api.Map, pg api.Pg, set []member) api.Interval {
	first, last := row[0], row[len(row)-1]
	p, _ := poolOf(last, pg)
	acting, boots := apart(set)
	return api.Interval{
		First: first.Epoch, Last: last.Epoch, Acting: acting, Boots: boots,
		May: len(acting) >= p.Min && last.Osds[acting[0]].UpThru >= first.Epoch,
	}
}
