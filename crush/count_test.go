package crush

import (
	"math"
	"math/rand"
	"testing"

	"reef/api"
)

// most is how many x are gone over at most.
const most = 100000

// countByWords is Choose at each of n of x.
func countByWords(l []api.Item, from uint32, n int) []int {
	often := make([]int, len(l))
	for range n {
		if i, is := Choose(l, from, 0); is {
			often[i]++
		}
		from++
	}
	return often
}

// P11.4

func TestCountKnown(t *testing.T) {
	wantCount(t, even(5), 0, 1000, 203, 198, 205, 181, 213)
	wantCount(t, even(5), math.MaxUint32-499, 1000, 217, 192, 221, 167, 203)
	wantCount(t, even(5), 500, 1, 0, 0, 0, 0, 1)
	wantCount(t, mixed(), 0, 1000, 0, 0, 100, 21, 0, 879, 0)
	wantCount(t, mixed(), math.MaxUint32, 2, 0, 0, 0, 0, 0, 2, 0)
	wantCount(t, items(1, one, 2, 2*one, 3, one), 0, 20000, 4938, 10061, 5001) // by their weights
}

func TestCountOfNone(t *testing.T) {
	wantCount(t, nil, 0, 10)
	wantCount(t, []api.Item{}, 7, math.MaxInt)
	wantCount(t, items(1, 0, 2, -1), 0, 10, 0, 0)
	wantCount(t, items(1, 0, 2, -1, 3, math.MinInt64), 0, math.MaxInt, 0, 0, 0)
	for _, n := range []int{0, -1, -most, math.MinInt32, math.MinInt} {
		wantCount(t, nil, 5, n)
		wantCount(t, items(1, one), 5, n, 0)
		wantCount(t, mixed(), math.MaxUint32, n, 0, 0, 0, 0, 0, 0, 0)
	}
}

func TestCountOfOneAndAlike(t *testing.T) {
	wantCount(t, items(1, one), 5, 1, 1)
	wantCount(t, items(1, 1), math.MaxUint32, 77, 77)
	wantCount(t, items(1, 0, 1, 7, 1, 7, 2, -1), 0, 100, 0, 100, 0, 0)
	wantCount(t, items(1, math.MaxInt64, 1, api.MaxWeight), 0, 100, 100, 0)
}

func TestCountOfMoreThanTheMost(t *testing.T) {
	l := items(1, one, 2, 2*one)
	often := countByWords(l, 9, most)
	for _, n := range []int{most, most + 1, 2 * most, math.MaxInt32, 1 << 32, math.MaxInt} {
		wantCount(t, l, 9, n, often...)
	}
	wantCount(t, l, 9, most-1, countByWords(l, 9, most-1)...)
	wantCount(t, items(3, one), 0, most-1, most-1)
	wantCount(t, items(3, one), 0, most+1, most)
}

func TestCountComesRound(t *testing.T) {
	for _, from := range []uint32{math.MaxUint32, math.MaxUint32 - 1, math.MaxUint32 - 100, math.MaxUint32 - most} {
		for _, n := range []int{1, 2, 102, 1000} {
			wantCount(t, even(4), from, n, countByWords(even(4), from, n)...)
		}
	}
	wantCount(t, even(4), math.MaxUint32, math.MaxInt, countByWords(even(4), math.MaxUint32, most)...)
}

func TestCountByWords(t *testing.T) {
	r := rand.New(rand.NewSource(6))
	for range 1000 {
		l, from, n := chance(r), r.Uint32(), r.Intn(100)
		wantCount(t, l, from, n, countByWords(l, from, n)...)
	}
}

func TestCountIsNewMemory(t *testing.T) {
	l := items(1, one, 2, one)
	often := Count(l, 0, 1000)
	sum := often[0] + often[1]
	often[0], often[1] = -1, -1
	if again := Count(l, 0, 1000); again[0]+again[1] != sum || sum != 1000 {
		t.Errorf("%d, then %v", sum, again)
	}
}
