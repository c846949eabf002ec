package crush

import (
	"math"
	"math/big"
	"math/rand"
	"testing"

	"reef/api"
)

// P11.2

func TestChooseOfNone(t *testing.T) {
	for _, l := range [][]api.Item{
		nil, {}, items(1, 0), items(1, -1), items(1, math.MinInt64), items(0, 0, 1, -1), items(3, 0, 3, 0, 3, -one),
	} {
		for _, r := range odd() {
			wantChoose(t, l, 5, r, 0, false)
			wantChoose(t, l, math.MaxUint32, r, 0, false)
		}
	}
}

func TestChooseOfOne(t *testing.T) {
	for x := range uint32(100) {
		for _, w := range []int64{1, 2, one, api.MaxWeight, api.MaxWeight + 1, math.MaxInt64} {
			wantChoose(t, items(7, w), x, 0, 0, true)
			wantChoose(t, items(5, 0, 6, -1, 7, w, 8, 0), x, 3, 2, true)
		}
	}
	wantChoose(t, items(0, 1), 2482, 0, 0, true) // the dearest straw of all
	wantChoose(t, items(0, one), 145064, 0, 0, true)
}

func TestChooseKnown(t *testing.T) {
	for _, c := range []struct {
		x           uint32
		r           int
		even, mixed int
	}{
		{0, 0, 1, 5}, {1, 0, 0, 5}, {2, 0, 0, 5}, {3, 7, 2, 5}, {math.MaxUint32, 0, 0, 5},
		{12345, 63, 4, 5}, {12345, 64, 3, 5}, {12345, -1, 4, 5},
	} {
		wantChoose(t, even(5), c.x, c.r, c.even, true)
		wantChoose(t, mixed(), c.x, c.r, c.mixed, true)
	}
}

// alwaysFirst asks for a place whatever is asked.
func alwaysFirst(t *testing.T, l []api.Item, place int) {
	t.Helper()
	for x := range uint32(50) {
		for r := range 3 {
			wantChoose(t, l, x, r, place, true)
		}
	}
}

func TestChooseOfAlike(t *testing.T) {
	alwaysFirst(t, items(4, one, 4, one), 0)
	alwaysFirst(t, items(4, 0, 4, 7, 4, 7, 4, 7), 1)
	alwaysFirst(t, items(4, one, 4+1<<32, one, 4-1<<32, one), 0) // the same straw
	alwaysFirst(t, items(4-1<<32, one, 4, one), 0)
	alwaysFirst(t, items(4, one, 4, one+1, 4, one+1), 1) // the same cost, by more weight
	wantChoose(t, items(0, 1, 0, api.MaxWeight), 145064, 0, 0, true)
	wantChoose(t, items(0, api.MaxWeight, 0, 1), 145064, 0, 0, true) // a straw that costs nothing does so by any weight
}

func TestChooseOfWeightsThatCountAsTheMost(t *testing.T) {
	alwaysFirst(t, items(4, api.MaxWeight, 4, api.MaxWeight+1, 4, math.MaxInt64), 0)
	alwaysFirst(t, items(4, math.MaxInt64, 4, api.MaxWeight), 0)
	alwaysFirst(t, items(4, api.MaxWeight-1, 4, math.MaxInt64, 4, api.MaxWeight), 1)
	for x := range uint32(500) {
		i, _ := Choose(items(1, api.MaxWeight, 2, api.MaxWeight, 3, api.MaxWeight), x, 0)
		wantChoose(t, items(1, math.MaxInt64, 2, api.MaxWeight+1, 3, 1<<40), x, 0, i, true)
	}
}

// Straws by a weight that is their cost are all alike; by one more or less they are ahead or behind by a hair.
func TestChooseComparesExactly(t *testing.T) {
	for x := range uint32(300) {
		l := even(6)
		for i := range l {
			l[i].Weight = Cost(x, i, 0)
		}
		wantChoose(t, l, x, 0, 0, true)
		for i := range l {
			wantChoose(t, with(l, i, l[i].Weight+1), x, 0, i, true)
		}
		wantChoose(t, with(l, 0, l[0].Weight-1), x, 0, 1, true)
	}
}

// near is weights by which a cost's fraction is more than that of another one by as little as may be, and whether there are any.
func near(cost, other int64) (int64, int64, bool) {
	w := new(big.Int).ModInverse(big.NewInt(cost), big.NewInt(other))
	if w == nil || w.Int64() == 0 || other < 2 {
		return 0, 0, false
	}
	return (w.Int64()*cost - 1) / other, w.Int64(), true
}

func TestChooseComparesNearOnes(t *testing.T) {
	asked := 0
	for x := range uint32(1000) {
		first, second, is := near(Cost(x, 1, 0), Cost(x, 2, 0))
		if !is || first < 1 {
			continue
		}
		asked++
		wantChoose(t, items(1, first, 2, second), x, 0, 1, true)
		wantChoose(t, items(2, second, 1, first), x, 0, 0, true)
		wantRank(t, items(1, first, 2, second), x, 0, 1, 0)
	}
	if asked < 400 {
		t.Errorf("only %d pairs", asked)
	}
}

func TestChooseByWords(t *testing.T) {
	r := rand.New(rand.NewSource(2))
	for range 20000 {
		l, x, try := chance(r), r.Uint32(), r.Intn(200)-50
		if places := rankByWords(l, x, try); len(places) > 0 {
			wantChoose(t, l, x, try, places[0], true)
		} else {
			wantChoose(t, l, x, try, 0, false)
		}
	}
}

func TestChooseOfOddItems(t *testing.T) {
	l := oddItems()
	for _, r := range odd() {
		for _, x := range odd() {
			wantChoose(t, l, uint32(x), r, rankByWords(l, uint32(x), r)[0], true)
		}
	}
}

func TestChooseOfMany(t *testing.T) {
	l := make([]api.Item, 1<<20)
	wantChoose(t, l, 1, 0, 0, false)
	l[1<<20-1].Weight = 1
	wantChoose(t, l, 1, 0, 1<<20-1, true)
}
