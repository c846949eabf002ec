package lead

import (
	"cmp"
	"iter"
	"slices"

	"reef/api"
)

// goneThrough is how many monitors are gone through at most, however many there are said to be.
const goneThrough = 64

// promiser is whose promise it is.
func promiser(p api.Promise) int { return p.Mon }

// itself is the monitor of a row of monitors' numbers.
func itself(mon int) int { return mon }

// copied is a leader that shares no memory with the one that came in.
func copied(l api.Leader) api.Leader {
	l.Promises, l.Acked = slices.Clone(l.Promises), slices.Clone(l.Acked)
	return l
}

// majority tells whether more than half of some monitors stand in a row.
func majority[T any](l []T, mons int) bool { return mons > 0 && len(l) >= Most(mons) }

// place is where a monitor stands, or would stand, in a row that rises by monitors, and whether it does.
func place[T any](l []T, mon int, of func(T) int) (int, bool) {
	return slices.BinarySearchFunc(l, mon, func(x T, mon int) int { return cmp.Compare(of(x), mon) })
}

// put lays something into a row that rises by monitors, in the place of what its monitor has there.
func put[T any](l []T, x T, of func(T) int) []T {
	i, is := place(l, of(x), of)
	if !is {
		return slices.Insert(l, i, x)
	}
	l[i] = x
	return l
}

// missing is those of some monitors that do not stand in a row that rises by monitors.
func missing[T any](l []T, mons int, of func(T) int) []int {
	var none []int
	for mon := range min(mons, goneThrough) {
		if _, is := place(l, mon, of); !is {
			none = append(none, mon)
		}
	}
	return none
}

// counting ranges over the promises that count: those of that many committed values that tell of an accepted one.
func counting(l []api.Promise, count int64) iter.Seq[api.Promise] {
	return func(yield func(api.Promise) bool) {
		for _, p := range l {
			if p.Count == count && p.Has && !yield(p) {
				return
			}
		}
	}
}
