package crush

import (
	"math"
	"math/big"
	"math/rand"
	"slices"
	"testing"

	"reef/api"
	"reef/hash"
)

const one = 1 << 16

// items is items of Id and Weight, by turns.
func items(l ...int64) []api.Item {
	var out []api.Item
	for i := 0; i < len(l); i += 2 {
		out = append(out, api.Item{Id: int(l[i]), Weight: l[i+1]})
	}
	return out
}

// even is so many items, from 0 on, with a weight of one each.
func even(n int) []api.Item {
	l := make([]api.Item, n)
	for i := range l {
		l[i] = api.Item{Id: i, Weight: one}
	}
	return l
}

// mixed is items with weights of all kinds; the first and the sixth one's Ids are the same modulo 2^32.
func mixed() []api.Item {
	return items(10, one, 11, 0, 12, 2*one, -13, one/2, 14, -5, 10+1<<32, 3*api.MaxWeight, 16, 1)
}

// chance is a list of chance items of a few Ids, some of which have no weight, some the same one, some more than counts.
func chance(r *rand.Rand) []api.Item {
	weights := []int64{math.MinInt64, -1, 0, 1, 2, 3, one / 2, one, one, 2 * one, api.MaxWeight - 1, api.MaxWeight, api.MaxWeight + 1, math.MaxInt64}
	l := make([]api.Item, r.Intn(9))
	for i := range l {
		w := weights[r.Intn(len(weights))]
		if r.Intn(2) == 0 {
			w = 1 + r.Int63n(api.MaxWeight)
		}
		l[i] = api.Item{Id: r.Intn(12) - 3, Weight: w}
	}
	return l
}

// odd is numbers near a bound.
func odd() []int {
	return []int{math.MinInt, math.MinInt + 1, -1 << 32, -1 << 31, -one, -2, -1, 0, 1, 2, one - 1, one, 1<<31 - 1, 1 << 31, 1<<32 - 1, 1 << 32, math.MaxInt - 1, math.MaxInt}
}

// oddItems is items with these as Id and as Weight.
func oddItems() []api.Item {
	var l []api.Item
	for _, id := range odd() {
		for _, w := range odd() {
			l = append(l, api.Item{Id: id, Weight: int64(w)})
		}
	}
	return l
}

// without is a list without the item at a place.
func without(l []api.Item, at int) []api.Item {
	return slices.Delete(slices.Clone(l), at, at+1)
}

// with is a list with another weight at a place.
func with(l []api.Item, at int, weight int64) []api.Item {
	l = slices.Clone(l)
	l[at].Weight = weight
	return l
}

// costByWords is the chapter's cost.
func costByWords(x uint32, id int, r int) int64 {
	const modulo = 1 << 32
	u := hash.Words(x, uint32((id%modulo+modulo)%modulo), uint32((r%modulo+modulo)%modulo)) % 65536
	return 16*65536 - int64(hash.Log(u+1))
}

// byWeight is the cost of an item's straw by its weight, exactly; none, where it may not be chosen.
func byWeight(item api.Item, x uint32, r int) *big.Rat {
	if item.Weight < 1 {
		return nil
	}
	return big.NewRat(costByWords(x, item.Id, r), min(item.Weight, 1<<20))
}

// rankByWords is the places of all that may be chosen, each put behind those that are ahead of it.
func rankByWords(l []api.Item, x uint32, r int) []int {
	var places []int
	var straws []*big.Rat
	for i, item := range l {
		s := byWeight(item, x, r)
		if s == nil {
			continue
		}
		at := 0
		for at < len(straws) && straws[at].Cmp(s) <= 0 {
			at++
		}
		places, straws = slices.Insert(places, at, i), slices.Insert(straws, at, s)
	}
	return places
}

// alike tells whether any two that may be chosen cost the same by their weights.
func alike(l []api.Item, x uint32, r int) bool {
	places := rankByWords(l, x, r)
	for i := 1; i < len(places); i++ {
		if byWeight(l[places[i-1]], x, r).Cmp(byWeight(l[places[i]], x, r)) == 0 {
			return true
		}
	}
	return false
}

// spare is the same items in a list with spare room, in which something stands that would be chosen.
func spare(l []api.Item) []api.Item {
	return append(slices.Clone(l), items(77, api.MaxWeight, 78, api.MaxWeight, 79, api.MaxWeight)...)[:len(l)]
}

// same asks for a list that is as it was, its spare room too.
func same(t *testing.T, l, was []api.Item) {
	t.Helper()
	if got := l[:len(l)+3]; !slices.Equal(got, spare(was)[:len(was)+3]) {
		t.Fatalf("what went in is %v; want %v", got, was)
	}
}

func wantChoose(t *testing.T, l []api.Item, x uint32, r int, place int, ok bool) {
	t.Helper()
	in := spare(l)
	if i, is := Choose(in, x, r); i != place || is != ok {
		t.Fatalf("Choose(%v, %d, %d): %d, %v; want %d, %v", l, x, r, i, is, place, ok)
	}
	same(t, in, l)
}

func wantRank(t *testing.T, l []api.Item, x uint32, r int, places ...int) {
	t.Helper()
	in := spare(l)
	got := Rank(in, x, r)
	if !slices.Equal(got, places) {
		t.Fatalf("Rank(%v, %d, %d): %v; want %v", l, x, r, got, places)
	}
	for i := range got[:cap(got)] {
		got[:cap(got)][i] = -9
	}
	if again := Rank(in, x, r); !slices.Equal(again, places) {
		t.Fatalf("Rank(%v, %d, %d) shares memory with the answer ahead of it", l, x, r)
	}
	same(t, in, l)
}

func wantCount(t *testing.T, l []api.Item, from uint32, n int, often ...int) {
	t.Helper()
	in := spare(l)
	got := Count(in, from, n)
	if !slices.Equal(got, often) {
		t.Fatalf("Count(%v, %d, %d): %v; want %v", l, from, n, got, often)
	}
	same(t, in, l)
}

func wantMoved(t *testing.T, a, b []api.Item, from uint32, n int, moved int) {
	t.Helper()
	in, out := spare(a), spare(b)
	if got := Moved(in, out, from, n); got != moved {
		t.Fatalf("Moved(%v, %v, %d, %d): %d; want %d", a, b, from, n, got, moved)
	}
	if got := Moved(out, in, from, n); got != moved {
		t.Fatalf("Moved(%v, %v, %d, %d): %d; want %d", b, a, from, n, got, moved)
	}
	same(t, in, a)
	same(t, out, b)
}
