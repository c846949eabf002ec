package rule

import (
	"iter"
	"slices"

	"reef/api"
	"reef/crush"
)

// maxAsked is how many x are gone over at most.
const maxAsked = 2000

// unlike is the unlike ones of a list, rising.
func unlike(l []int) []int {
	return slices.Compact(slices.Sorted(slices.Values(l)))
}

// weight is a node's weight as it counts.
func weight(weights []int64, node int) int64 {
	if node >= len(weights) {
		return 0
	}
	return max(0, min(weights[node], api.MaxWeight))
}

// domains is the failure domain of each node.
func domains(hosts []int, domain int) []int {
	of := slices.Clone(hosts)
	if domain != api.DmHost {
		for node := range of {
			of[node] = node
		}
	}
	return of
}

// group is the hosts, rising, and the nodes of each of them, each with its weight.
func group(hosts []int, weights []int64) ([]api.Item, [][]api.Item) {
	ids := unlike(hosts)
	items, nodes := make([]api.Item, len(ids)), make([][]api.Item, len(ids))
	for i, id := range ids {
		items[i].Id = id
	}
	for node, host := range hosts {
		i, _ := slices.BinarySearch(ids, host)
		w := weight(weights, node)
		items[i].Weight = min(items[i].Weight+w, api.MaxWeight)
		nodes[i] = append(nodes[i], api.Item{Id: node, Weight: w})
	}
	return items, nodes
}

// plan is what Places of all x go by.
type plan struct {
	hosts   []api.Item
	nodes   [][]api.Item // of each of the hosts
	domains []int        // of each node
	enough  int          // so many nodes, and no try finds another one
}

// draw makes a plan.
func draw(hosts []int, weights []int64, size, domain int) plan {
	items, nodes := group(hosts, weights)
	return plan{items, nodes, domains(hosts, domain), Most(hosts, weights, size, domain)}
}

// tries ranges over the nodes that the tries give, in the tries' order; where one try gives none, none does.
func (p plan) tries(x uint32) iter.Seq[int] {
	return func(yield func(int) bool) {
		for r := range api.MaxTries {
			i, is := crush.Choose(p.hosts, x, r)
			if !is {
				return
			}
			k, is := crush.Choose(p.nodes[i], x, r+api.MaxTries)
			if is && !yield(p.nodes[i][k].Id) {
				return
			}
		}
	}
}

// place is the Place of x.
func (p plan) place(x uint32) []int {
	if p.enough == 0 {
		return nil
	}
	var found []int
	var met [api.MaxTries]int // the domains of what is found: each try finds one at most
tries:
	for node := range p.tries(x) {
		for _, d := range met[:len(found)] {
			if d == p.domains[node] {
				continue tries
			}
		}
		met[len(found)] = p.domains[node]
		found = append(found, node)
		if len(found) == p.enough {
			break tries
		}
	}
	return found
}

// asked ranges over n of x, from one on, coming round behind the last.
func asked(from uint32, n int) iter.Seq[uint32] {
	return func(yield func(uint32) bool) {
		for i := range min(n, maxAsked) {
			if !yield(from + uint32(i)) {
				return
			}
		}
	}
}
