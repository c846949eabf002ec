package crush

import (
	"math"
	"math/rand"
	"slices"
	"testing"

	"reef/api"
)

// P11.3

func TestRankOfNone(t *testing.T) {
	for _, r := range odd() {
		wantRank(t, nil, 5, r)
		wantRank(t, []api.Item{}, 5, r)
		wantRank(t, items(1, 0), 5, r)
		wantRank(t, items(1, 0, 2, -1, 3, math.MinInt64), 5, r)
	}
}

func TestRankOfOne(t *testing.T) {
	for x := range uint32(100) {
		wantRank(t, items(7, 1), x, 0, 0)
		wantRank(t, items(7, math.MaxInt64), x, 0, 0)
		wantRank(t, items(5, 0, 6, -1, 7, one, 8, 0), x, 3, 2)
	}
}

func TestRankKnown(t *testing.T) {
	for _, c := range []struct {
		x           uint32
		r           int
		even, mixed []int
	}{
		{0, 0, []int{1, 2, 4, 3, 0}, []int{5, 2, 3, 0, 6}},
		{1, 0, []int{0, 1, 2, 4, 3}, []int{5, 2, 0, 3, 6}},
		{2, 0, []int{0, 2, 3, 4, 1}, []int{5, 0, 2, 3, 6}},
		{3, 7, []int{2, 3, 0, 1, 4}, []int{5, 2, 0, 3, 6}},
		{math.MaxUint32, 0, []int{0, 2, 4, 3, 1}, []int{5, 2, 0, 3, 6}},
		{12345, 63, []int{4, 1, 3, 0, 2}, []int{5, 0, 2, 3, 6}},
		{12345, 64, []int{3, 1, 4, 2, 0}, []int{5, 0, 2, 3, 6}},
		{12345, -1, []int{4, 0, 1, 2, 3}, []int{5, 3, 0, 2, 6}},
	} {
		wantRank(t, even(5), c.x, c.r, c.even...)
		wantRank(t, mixed(), c.x, c.r, c.mixed...)
	}
}

func TestRankOfAlike(t *testing.T) {
	for x := range uint32(50) {
		wantRank(t, items(4, one, 4, one), x, 0, 0, 1)
		wantRank(t, items(4, 9, 4, 0, 4, 10, 4, 9, 4, 11, 4, 10), x, 0, 4, 2, 5, 0, 3)
		wantRank(t, items(4, math.MaxInt64, 4, api.MaxWeight, 4, api.MaxWeight+1), x, 0, 0, 1, 2)
		wantRank(t, items(4, api.MaxWeight-1, 4+1<<32, api.MaxWeight, 4-1<<32, 1<<50), x, 0, 1, 2, 0)
	}
	wantRank(t, items(0, 1, 0, api.MaxWeight, 0, 0, 0, one), 145064, 0, 0, 1, 3)
}

// A sort that leaves those that are alike in no order of theirs would show in long lists.
func TestRankOfManyAlike(t *testing.T) {
	l := slices.Repeat(items(4, one, 4, 2*one, 4, 0), 300)
	var places []int
	for _, first := range []int{1, 0} {
		for i := range 300 {
			places = append(places, 3*i+first)
		}
	}
	wantRank(t, l, 9, 0, places...)
}

func TestRankComparesExactly(t *testing.T) {
	for x := range uint32(300) {
		l := even(6)
		for i := range l {
			l[i].Weight = Cost(x, i, 0)
		}
		wantRank(t, l, x, 0, 0, 1, 2, 3, 4, 5)
		wantRank(t, with(l, 4, l[4].Weight+1), x, 0, 4, 0, 1, 2, 3, 5)
		wantRank(t, with(l, 1, l[1].Weight-1), x, 0, 0, 2, 3, 4, 5, 1)
	}
}

func TestRankByWords(t *testing.T) {
	r := rand.New(rand.NewSource(3))
	for range 20000 {
		l, x, try := chance(r), r.Uint32(), r.Intn(200)-50
		wantRank(t, l, x, try, rankByWords(l, x, try)...)
	}
	l := oddItems()
	for _, n := range odd() {
		wantRank(t, l, uint32(n), n, rankByWords(l, uint32(n), n)...)
	}
}

// P11.8

func TestChooseIsRanksFirst(t *testing.T) {
	r := rand.New(rand.NewSource(4))
	for range 20000 {
		l, x, try := chance(r), r.Uint32(), r.Intn(200)-50
		i, is := Choose(l, x, try)
		places := Rank(l, x, try)
		if is != (len(places) > 0) || is && i != places[0] {
			t.Fatalf("Choose(%v, %d, %d): %d, %v; Rank: %v", l, x, try, i, is, places)
		}
	}
}

func TestRankWithoutTheFirst(t *testing.T) {
	r := rand.New(rand.NewSource(5))
	for range 20000 {
		l, x, try := chance(r), r.Uint32(), r.Intn(200)-50
		places := Rank(l, x, try)
		if len(places) == 0 {
			continue
		}
		rest := Rank(without(l, places[0]), x, try)
		for i, p := range rest {
			if p >= places[0] {
				rest[i]++
			}
		}
		if !slices.Equal(rest, places[1:]) {
			t.Fatalf("Rank(%v, %d, %d): %v; without the first one: %v", l, x, try, places, rest)
		}
	}
}
