package extent

import (
	"cmp"
	"iter"
	"slices"

	"reef/api"
)

// maxRow is how many sectors a row may have, maxAt the last sector of which an extent's numbers are told.
const (
	maxRow = 1 << 16
	maxAt  = 1 << 62
)

// isRow tells whether a row may have so many sectors.
func isRow(total int) bool { return total >= 0 && total <= maxRow }

// lies tells whether an extent has sectors, and all of them in a row; of no row it has any.
func lies(total int, x api.Extent) bool {
	return isRow(total) && x.Num >= 1 && x.At >= 0 && x.At <= total-x.Num // a sum might come round
}

func allLie(total int, l []api.Extent) bool {
	for _, x := range l {
		if !lies(total, x) {
			return false
		}
	}
	return true
}

// end is the sector behind an extent.
func end(x api.Extent) int { return x.At + x.Num }

// sectors ranges over the numbers of the sectors of extents.
func sectors(l []api.Extent) iter.Seq[int] {
	return func(yield func(int) bool) {
		for _, x := range l {
			if x.Num > maxRow || x.At < 0 || x.At > maxAt {
				continue
			}
			for i := range x.Num {
				if !yield(x.At + i) {
					return
				}
			}
		}
	}
}

// split takes n sectors, 1 or more, from the beginning of extents on, and tells what is left of these.
func split(l []api.Extent, n int) (taken, left []api.Extent) {
	seen := 0
gather:
	for _, x := range l {
		seen++
		switch {
		case x.Num < n:
			taken = append(taken, x)
			n -= x.Num
		case x.Num == n:
			taken = append(taken, x)
			break gather
		default:
			taken = append(taken, api.Extent{At: x.At, Num: n})
			left = append(left, api.Extent{At: x.At + n, Num: x.Num - n})
			break gather
		}
	}
	return taken, append(left, l[seen:]...)
}

// rising is the extents of two lists in their order, in memory of its own.
func rising(a, b []api.Extent) []api.Extent {
	l := slices.Concat(a, b)
	slices.SortFunc(l, func(x, y api.Extent) int { return cmp.Compare(x.At, y.At) })
	return l
}

// overlap tells whether a sector stands twice in extents that rise.
func overlap(l []api.Extent) bool {
	for i := 1; i < len(l); i++ {
		if l[i].At < end(l[i-1]) {
			return true
		}
	}
	return false
}

// joined makes one of those that touch, of extents that rise.
func joined(l []api.Extent) []api.Extent {
	var few []api.Extent
	for _, x := range l {
		if k := len(few) - 1; k >= 0 && end(few[k]) == x.At {
			few[k].Num += x.Num
			continue
		}
		few = append(few, x)
	}
	return few
}

// others is the extents between those of a row, and at its ends.
func others(total int, l []api.Extent) []api.Extent {
	var out []api.Extent
	at := 0
	for _, x := range l {
		if x.At > at {
			out = append(out, api.Extent{At: at, Num: x.At - at})
		}
		at = end(x)
	}
	if at < total {
		out = append(out, api.Extent{At: at, Num: total - at})
	}
	return out
}
