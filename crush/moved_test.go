package crush

import (
	"math"
	"math/rand"
	"slices"
	"testing"

	"reef/api"
)

// movedByWords holds what is chosen of two lists against each other at each of n of x.
func movedByWords(a, b []api.Item, from uint32, n int) int {
	moved := 0
	for range n {
		var ids [2][]int
		for k, l := range [][]api.Item{a, b} {
			if i, is := Choose(l, from, 0); is {
				ids[k] = append(ids[k], l[i].Id)
			}
		}
		if !slices.Equal(ids[0], ids[1]) {
			moved++
		}
		from++
	}
	return moved
}

// P11.5

func TestMovedKnown(t *testing.T) {
	five := even(5)
	wantMoved(t, five, even(4), 0, 1000, 213)
	wantMoved(t, five, even(6), math.MaxUint32-499, 1000, 154)
	wantMoved(t, five, with(five, 2, 2*one), 0, 1000, 135)
	wantMoved(t, five, mixed(), 0, 1000, 1000) // no Id is in both
}

func TestMovedOfNone(t *testing.T) {
	none := items(1, 0, 2, -1)
	wantMoved(t, nil, nil, 0, 10, 0)
	wantMoved(t, none, nil, 0, 10, 0)
	wantMoved(t, none, items(3, 0), 0, math.MaxInt, 0)
	wantMoved(t, nil, items(0, one), 0, 10, 10) // of one of them alone, the Id being 0 too
	wantMoved(t, none, items(1, one), math.MaxUint32, 10, 10)
	wantMoved(t, items(1, 0, 0, 5), none, 0, most+1, most)
	for _, n := range []int{0, -1, -most, math.MinInt32, math.MinInt} {
		wantMoved(t, even(5), even(4), 5, n, 0)
		wantMoved(t, nil, even(4), 5, n, 0)
	}
}

func TestMovedHoldsIdsAgainstEachOther(t *testing.T) {
	wantMoved(t, items(1, one), items(2, one), 0, 10, 10)
	wantMoved(t, items(1, one), items(1, 1), 0, 10, 0)
	wantMoved(t, items(1, one), items(2, 0, 3, -1, 1, one), 0, 10, 0) // at another place
	wantMoved(t, items(1, one), items(1, one, 1, 2*one), 0, 10, 0)
	wantMoved(t, items(1, one), items(1+1<<32, one), 0, 10, 10) // the same straw, another Id
	wantMoved(t, items(1, one), items(1-1<<32, one, 1, one), 0, 10, 10)
	wantMoved(t, items(-1, one), items(math.MaxUint32, one), 0, 10, 10)
	turned := even(5)
	slices.Reverse(turned)
	wantMoved(t, even(5), turned, 0, 1000, 0)
	wantMoved(t, even(5), even(5), math.MaxUint32-10, 1000, 0)
}

func TestMovedOfMoreThanTheMost(t *testing.T) {
	a, b := even(3), even(2)
	moved := movedByWords(a, b, 9, most)
	for _, n := range []int{most, most + 1, math.MaxInt32, 1 << 32, math.MaxInt} {
		wantMoved(t, a, b, 9, n, moved)
	}
	wantMoved(t, items(1, 1), items(2, 1), 0, most-1, most-1)
	wantMoved(t, items(1, 1), items(2, 1), 0, math.MaxInt, most)
}

func TestMovedComesRound(t *testing.T) {
	for _, from := range []uint32{math.MaxUint32, math.MaxUint32 - 100} {
		for _, n := range []int{1, 2, 102, 1000} {
			wantMoved(t, even(3), even(4), from, n, movedByWords(even(3), even(4), from, n))
		}
	}
}

func TestMovedByWords(t *testing.T) {
	r := rand.New(rand.NewSource(7))
	for range 1000 {
		a, b, from, n := chance(r), chance(r), r.Uint32(), r.Intn(100)
		wantMoved(t, a, b, from, n, movedByWords(a, b, from, n))
		c := slices.Clone(a)
		r.Shuffle(len(c), func(i, j int) { c[i], c[j] = c[j], c[i] })
		wantMoved(t, a, c, from, n, movedByWords(a, c, from, n))
	}
}
