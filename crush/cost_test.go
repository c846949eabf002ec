package crush

import (
	"math"
	"math/rand"
	"testing"
)

// The numbers below were worked out apart from this package, by the words of its chapter and of that of hash.

func wantCost(t *testing.T, x uint32, id int, r int, cost int64) {
	t.Helper()
	if got := Cost(x, id, r); got != cost {
		t.Errorf("Cost(%d, %d, %d): %d; want %d", x, id, r, got, cost)
	}
}

// P11.1

func TestCostKnown(t *testing.T) {
	wantCost(t, 0, 0, 0, 203987)
	wantCost(t, 1, 0, 0, 53426)
	wantCost(t, 0, 1, 0, 35366)
	wantCost(t, 0, 0, 1, 133457)
	wantCost(t, 1, 2, 3, 682560)
	wantCost(t, 3, 2, 1, 212864)
	wantCost(t, 2, 1, 3, 37532)
	wantCost(t, 5, 65536, 0, 215434)
	wantCost(t, 5, 0, 65536, 133404)
	wantCost(t, 65536, 5, 0, 34889)
	wantCost(t, 123456789, 1000, 63, 3989)
	wantCost(t, math.MaxUint32, math.MaxUint32, math.MaxUint32, 58948)
}

func TestCostAtTheBounds(t *testing.T) {
	for _, x := range []uint32{2482, 6126, 8707} {
		wantCost(t, x, 0, 0, 1048576) // u is 0
	}
	wantCost(t, 17, 98541, 5, 1048576)
	wantCost(t, 17, 4, 1802, 1048576)
	for _, x := range []uint32{145064, 146832, 205443} {
		wantCost(t, x, 0, 0, 0) // u is 65535
	}
	wantCost(t, 17, 48395, 5, 0)
	wantCost(t, 17, 4, 32297, 0)
	wantCost(t, 238675, 0, 0, 983040) // 1
	wantCost(t, 51869, 0, 0, 2)       // 65534
	wantCost(t, 17684, 0, 0, 524288)  // 255
	wantCost(t, 52655, 0, 0, 65536)   // 32767
	wantCost(t, 5745, 0, 0, 65534)    // 32768
}

func TestCostOfIdsAndTriesModulo(t *testing.T) {
	wantCost(t, 7, -1, 0, 49495)
	wantCost(t, 7, 1<<32-1, 0, 49495)
	wantCost(t, 7, 0, -1, 97385)
	wantCost(t, 5, 1<<31, 64, 280928)
	wantCost(t, 5, -1<<31, 64, 280928)
	wantCost(t, 9, math.MaxInt, math.MinInt, 103753)
	wantCost(t, 9, -1, 0, 103753)
	wantCost(t, math.MaxUint32, -1, -1, 58948)
	wantCost(t, 17, 98541-1<<32, 5+1<<32, 1048576)
	wantCost(t, 17, 48395+5<<32, 5-3<<32, 0)
	for _, n := range odd() {
		low := int(uint32(n))
		if Cost(3, n, 4) != Cost(3, low, 4) || Cost(3, 4, n) != Cost(3, 4, low) {
			t.Errorf("%d and %d are not the same", n, low)
		}
	}
}

func TestCostByWords(t *testing.T) {
	r := rand.New(rand.NewSource(1))
	for range 100000 {
		x, id, try := r.Uint32(), int(r.Uint64())>>r.Intn(64), int(r.Uint64())>>r.Intn(64)
		if got, want := Cost(x, id, try), costByWords(x, id, try); got != want || got < 0 || got > 1048576 {
			t.Fatalf("Cost(%d, %d, %d): %d; want %d", x, id, try, got, want)
		}
	}
	for _, id := range odd() {
		for _, try := range odd() {
			if got, want := Cost(math.MaxUint32, id, try), costByWords(math.MaxUint32, id, try); got != want {
				t.Fatalf("Cost(%d, %d, %d): %d; want %d", uint32(math.MaxUint32), id, try, got, want)
			}
		}
	}
}

// What is asked, the thing and the try: each of them has its say.
func TestCostHangsOnAllThree(t *testing.T) {
	seen := map[int64]bool{}
	for k := range 1000 {
		seen[Cost(uint32(k), 5, 5)] = true
		seen[Cost(5, k+1000, 5)] = true
		seen[Cost(5, 5, k+1000)] = true
	}
	if len(seen) < 2500 {
		t.Errorf("of 3000 there are %d unlike ones", len(seen))
	}
}
