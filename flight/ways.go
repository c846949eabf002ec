package flight

import (
	"cmp"
	"slices"

	"reef/api"
)

// order is the order of ways: by From, then by To.
func order(v, w api.Way) int {
	return cmp.Or(cmp.Compare(v.From, w.From), cmp.Compare(v.To, w.To))
}

// waysRise tells whether ways do, each once, and each is to another node.
func waysRise(cut []api.Way) bool {
	for i, w := range cut {
		if w.From == w.To || i > 0 && order(cut[i-1], w) >= 0 {
			return false
		}
	}
	return true
}

// rising puts ways in order, each once, where they lie.
func rising(ways []api.Way) []api.Way {
	slices.SortFunc(ways, order)
	return slices.Compact(ways)
}

// placesOf is ways as keys, each with its place in the list.
func placesOf(ways []api.Way) map[api.Way]int {
	m := make(map[api.Way]int, len(ways))
	for i, w := range ways {
		m[w] = i
	}
	return m
}

// has tells whether a way is one of these.
func has(ways []api.Way, w api.Way) bool {
	_, is := placesOf(ways)[w]
	return is
}

// there is all ways from one of a to one of b; none is from a node to itself.
func there(a, b []int) []api.Way {
	var l []api.Way
	for _, from := range a {
		for _, to := range b {
			if from != to {
				l = append(l, api.Way{From: from, To: to})
			}
		}
	}
	return l
}

// once is a set of nodes, each once, so that long rows of a few nodes make few ways.
func once(nodes []int) []int {
	return slices.Compact(slices.Sorted(slices.Values(nodes)))
}
