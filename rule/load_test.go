package rule

import (
	"math"
	"math/rand"
	"slices"
	"testing"

	"reef/api"
)

// loadByWords asks Place for each x.
func (k rack) loadByWords(from uint32, n, size, domain int) []int {
	often := make([]int, len(k.hosts))
	for range n {
		for _, node := range Place(k.hosts, k.weights, from, size, domain) {
			often[node]++
		}
		from++
	}
	return often
}

// movesByWords holds the Places of each x against each other.
func (k rack) movesByWords(other []int64, from uint32, n, size, domain int) int {
	moves := 0
	for range n {
		had := Place(k.hosts, k.weights, from, size, domain)
		for _, node := range Place(k.hosts, other, from, size, domain) {
			if !slices.Contains(had, node) {
				moves++
			}
		}
		from++
	}
	return moves
}

// P12.6. The known numbers were worked out apart from this package.

func TestLoadKnown(t *testing.T) {
	wantLoad(t, plain(), 0, 200, 2, api.DmHost, 79, 71, 77, 70, 103)
	wantLoad(t, plain(), 0, 200, 2, api.DmOsd, 86, 75, 78, 75, 86)
	wantLoad(t, plain(), math.MaxUint32-99, 200, 3, api.DmHost, 101, 99, 106, 94, 200)
	wantLoad(t, plain(), 5, 200, 2, 7, 87, 74, 77, 74, 88)
	wantLoad(t, mixed(), 0, 200, 2, api.DmHost, 20, 0, 0, 179, 138, 63, 0, 0)
	wantLoad(t, mixed(), math.MaxUint32-99, 200, 2, api.DmOsd, 58, 0, 0, 192, 95, 55, 0, 0)
}

func TestLoadOfNone(t *testing.T) {
	for _, n := range []int{0, -1, -2000, math.MinInt32, math.MinInt} {
		wantLoad(t, plain(), 7, n, 2, api.DmHost, 0, 0, 0, 0, 0)
	}
	for _, size := range []int{0, -1, math.MinInt} {
		wantLoad(t, plain(), 7, 100, size, api.DmOsd, 0, 0, 0, 0, 0)
	}
	wantLoad(t, rack{}, 0, 100, 2, api.DmHost)
	wantLoad(t, rack{nil, []int64{one}}, 0, math.MaxInt, 2, api.DmHost)
	wantLoad(t, rack{[]int{1, 2}, nil}, 0, math.MaxInt, 2, api.DmHost, 0, 0)
	wantLoad(t, rack{[]int{1, 2}, []int64{-1, 0, 5}}, 0, 100, 2, api.DmOsd, 0, 0)
}

func TestLoadOfMoreThanTheMost(t *testing.T) {
	k := rack{[]int{1, 2, 2}, []int64{one, one, 2 * one}}
	often := k.loadByWords(3, most, 2, api.DmHost)
	for _, n := range []int{most, most + 1, 1 << 31, 1 << 32, math.MaxInt} {
		wantLoad(t, k, 3, n, 2, api.DmHost, often...)
	}
	wantLoad(t, rack{[]int{4}, []int64{1}}, 3, most-1, 1, api.DmHost, most-1)
	wantLoad(t, rack{[]int{4}, []int64{1}}, 3, most, 1, api.DmHost, most)
	wantLoad(t, rack{[]int{4}, []int64{1}}, 3, most+1, 9, api.DmOsd, most)
	wantLoad(t, rack{[]int{4}, []int64{1}}, 3, 1, 9, api.DmOsd, 1)
}

func TestLoadComesRound(t *testing.T) {
	for _, from := range []uint32{math.MaxUint32, math.MaxUint32 - 30} {
		for _, n := range []int{1, 2, 31, 32, 100} {
			wantLoad(t, mixed(), from, n, 2, api.DmHost, mixed().loadByWords(from, n, 2, api.DmHost)...)
		}
	}
}

func TestLoadByWords(t *testing.T) {
	r := rand.New(rand.NewSource(5))
	for range 500 {
		k, from, n, size, domain := chance(r), r.Uint32(), r.Intn(30), r.Intn(6)-1, r.Intn(4)
		wantLoad(t, k, from, n, size, domain, k.loadByWords(from, n, size, domain)...)
	}
}

// P12.7

func TestMovesKnown(t *testing.T) {
	k := plain()
	without, double := k.with(0, 0), k.with(0, 2*one)
	wantMoves(t, k, without.weights, 0, 200, 2, api.DmHost, 119)
	wantMoves(t, without, k.weights, 0, 200, 2, api.DmHost, 119)
	wantMoves(t, k, double.weights, math.MaxUint32-99, 200, 2, api.DmOsd, 63)
	wantMoves(t, double, k.weights, math.MaxUint32-99, 200, 2, api.DmOsd, 63)
}

func TestMovesCountsWhatIsNewAlone(t *testing.T) {
	k := plain()
	none := rack{k.hosts, nil}
	wantMoves(t, k, nil, 0, 200, 2, api.DmHost, 0)
	wantMoves(t, none, k.weights, 0, 200, 2, api.DmHost, 400)
	wantMoves(t, none, k.weights, 0, 200, 9, api.DmHost, 600)
	wantMoves(t, none, nil, 0, 200, 2, api.DmHost, 0)
	wantMoves(t, none, k.with(4, 0).weights, 0, 100, 9, api.DmHost, 200)
	wantMoves(t, rack{k.hosts, []int64{0, 0, 0, 0, one}}, []int64{one, 0, 0, 0, one}, 0, 100, 2, api.DmHost, 100)
	wantMoves(t, rack{k.hosts, []int64{one, 0, 0, 0, 0}}, []int64{0, 0, 0, 0, one}, 0, 100, 2, api.DmHost, 100)
	wantMoves(t, k, []int64{-1, 0, math.MinInt64}, 0, 100, 2, api.DmHost, 0)
}

// The same nodes in another order have not moved.
func TestMovesOfAnotherOrder(t *testing.T) {
	k := rack{[]int{0, 1}, []int64{one, 2 * one}}
	other := []int64{2 * one, one}
	unlike := 0
	for x := range uint32(200) {
		if Place(k.hosts, k.weights, x, 2, api.DmHost)[0] != Place(k.hosts, other, x, 2, api.DmHost)[0] {
			unlike++
		}
	}
	wantMoves(t, k, other, 0, 200, 2, api.DmHost, 0)
	wantMoves(t, k, other, 0, 200, 1, api.DmHost, unlike)
	if unlike < 20 {
		t.Errorf("only %d are unlike", unlike)
	}
}

func TestMovesOfNone(t *testing.T) {
	other := plain().with(0, 0).weights
	for _, n := range []int{0, -1, -2000, math.MinInt} {
		wantMoves(t, plain(), other, 7, n, 2, api.DmHost, 0)
	}
	for _, size := range []int{0, -1, math.MinInt} {
		wantMoves(t, plain(), other, 7, 100, size, api.DmOsd, 0)
	}
	wantMoves(t, rack{nil, []int64{1}}, []int64{2}, 0, math.MaxInt, 2, api.DmHost, 0)
}

func TestMovesOfMoreThanTheMost(t *testing.T) {
	k := rack{[]int{1, 2}, []int64{one, 0}}
	for _, n := range []int{most, most + 1, 1 << 32, math.MaxInt} {
		wantMoves(t, k, []int64{0, one, 9}, 3, n, 2, api.DmHost, most)
	}
	wantMoves(t, k, []int64{0, one}, 3, most-1, 2, api.DmOsd, most-1)
	wantMoves(t, k, []int64{0, one}, 3, 1, 2, api.DmOsd, 1)
}

func TestMovesByWords(t *testing.T) {
	r := rand.New(rand.NewSource(6))
	for range 500 {
		k, other, from, n, size, domain := chance(r), chance(r).weights, r.Uint32(), r.Intn(30), r.Intn(6)-1, r.Intn(4)
		wantMoves(t, k, other, from, n, size, domain, k.movesByWords(other, from, n, size, domain))
	}
	wantMoves(t, plain(), mixed().weights, math.MaxUint32-30, 100, 2, api.DmHost, plain().movesByWords(mixed().weights, math.MaxUint32-30, 100, 2, api.DmHost))
}
