package crush

import (
	"cmp"
	"iter"

	"reef/api"
)

// maxCost is what a straw costs at most, maxAsked how many x are gone over at most.
const (
	maxCost  int64 = 16 * 65536
	maxAsked       = 100000
)

// straw is what an item draws: its place in the list, its weight as it counts, and its cost ahead of that.
type straw struct {
	api.Item
	place int
	cost  int64
}

// straws ranges over the straws of those items of a list that may be chosen, as they stand.
func straws(l []api.Item, x uint32, r int) iter.Seq[straw] {
	return func(yield func(straw) bool) {
		for i, item := range l {
			if item.Weight < 1 {
				continue
			}
			item.Weight = min(item.Weight, api.MaxWeight)
			if !yield(straw{item, i, Cost(x, item.Id, r)}) {
				return
			}
		}
	}
}

// compare is below 0 where a is ahead of b. Each cost is laid against the other one's weight: that compares the fractions without dividing, and neither product passes 2^40.
func compare(a, b straw) int {
	return cmp.Or(cmp.Compare(a.cost*b.Weight, b.cost*a.Weight), cmp.Compare(a.place, b.place))
}

// asked ranges over n of x, from one on, coming round behind the last.
func asked(from uint32, n int) iter.Seq[uint32] {
	return func(yield func(uint32) bool) {
		for i := range min(n, maxAsked) {
			if !yield(from + uint32(i)) {
				return
			}
		}
	}
}
