package lead

import (
	"math"
	"math/big"
	"testing"

	"reef/api"
)

// P16.1

func wantNext(t *testing.T, promised api.Ballot, seen int64, mon int, want api.Ballot, ok bool) {
	t.Helper()
	if got, is := Next(promised, seen, mon); got != want || is != ok {
		t.Errorf("Next(%v, %d, %d): %v %v; want %v %v", promised, seen, mon, got, is, want, ok)
	}
}

func TestNext(t *testing.T) {
	wantNext(t, bal(3, 1), 5, 2, bal(6, 2), true) // the chapter's
	wantNext(t, bal(5, 1), 3, 2, bal(6, 2), true)
	wantNext(t, bal(5, 4), 5, 0, bal(6, 0), true)
	wantNext(t, bal(4, 4), 5, 0, bal(6, 0), true)
	wantNext(t, bal(0, 0), 0, 3, bal(1, 3), true)
	wantNext(t, bal(0, 0), 7, 3, bal(8, 3), true)
	wantNext(t, bal(7, 3), 0, 3, bal(8, 3), true)
	wantNext(t, bal(7, 3), -9, 3, bal(8, 3), true)
	wantNext(t, bal(-9, 3), 7, 3, bal(8, 3), true)
	wantNext(t, bal(2, 77), 1, 3, bal(3, 3), true) // promised's Mon plays no part
	wantNext(t, bal(2, -7), 1, 3, bal(3, 3), true)
}

func TestNextAtTheLastRound(t *testing.T) {
	wantNext(t, bal(top, 0), 0, 1, api.Ballot{}, false) // the chapter's
	for _, n := range []int64{math.MinInt64, -1, 0, 1, top - 2, top - 1} {
		wantNext(t, bal(top-1, 0), n, 1, bal(top, 1), true)
		wantNext(t, bal(n, 0), top-1, 1, bal(top, 1), true)
		for _, past := range []int64{top, top + 1, 1 << 31, 1 << 32, math.MaxInt64 - 1, math.MaxInt64} {
			wantNext(t, bal(past, 0), n, 1, api.Ballot{}, false)
			wantNext(t, bal(n, 0), past, 1, api.Ballot{}, false)
		}
	}
	wantNext(t, bal(top-2, 0), top-3, 1, bal(top-1, 1), true)
}

func TestNextBelowTheFirstRound(t *testing.T) {
	for _, n := range []int64{math.MinInt64, math.MinInt64 + 1, -1 << 32, -2, -1} {
		wantNext(t, bal(n, 0), -1, 1, api.Ballot{}, false)
		wantNext(t, bal(-1, 0), n, 1, api.Ballot{}, false)
		wantNext(t, bal(n, 0), n, 1, api.Ballot{}, false)
		wantNext(t, bal(n, 0), 0, 1, bal(1, 1), true)
		wantNext(t, bal(0, 0), n, 1, bal(1, 1), true)
	}
}

func TestNextOfAMonitorThatIsNone(t *testing.T) {
	for mon := range mons {
		wantNext(t, bal(3, 1), 5, mon, bal(6, mon), true)
	}
	for _, mon := range []int{math.MinInt, -1 << 32, -2, -1, mons, mons + 1, far, 1 << 32, 1<<32 + 1, math.MaxInt} {
		wantNext(t, bal(3, 1), 5, mon, api.Ballot{}, false)
		wantNext(t, bal(0, 0), 0, mon, api.Ballot{}, false)
		wantNext(t, bal(top, 0), 0, mon, api.Ballot{}, false)
	}
}

// P16.1 by numbers without an end, and P16.10: a later ballot than what was promised, and unlike for unlike monitors.
func TestNextByWords(t *testing.T) {
	for _, round := range odd() {
		for _, seen := range odd() {
			one := big.NewInt(max(round, seen))
			one.Add(one, big.NewInt(1))
			ok := one.Sign() > 0 && one.Cmp(big.NewInt(top)) <= 0
			for mon := range mons {
				want := api.Ballot{}
				if ok {
					want = bal(one.Int64(), mon)
				}
				for _, at := range []int{-1, 0, mon, mons - 1, math.MaxInt} {
					wantNext(t, bal(round, at), seen, mon, want, ok)
				}
			}
		}
	}
}

func TestNextIsABallotOfOnesOwn(t *testing.T) {
	whose := map[api.Ballot]int{}
	for round := int64(-1); round < 40; round++ {
		for at := -1; at <= mons; at++ {
			for seen := int64(-1); seen < 40; seen++ {
				for mon := range mons {
					b, ok := Next(bal(round, at), seen, mon)
					if !ok {
						continue
					}
					if b.Round < round || b.Round == round && b.Mon <= at {
						t.Fatalf("Next(%v, %d, %d): %v is not later", bal(round, at), seen, mon, b)
					}
					if other, is := whose[b]; is && other != mon {
						t.Fatalf("%v is of both %d and %d", b, mon, other)
					}
					whose[b] = mon
				}
			}
		}
	}
	if len(whose) != 40*mons {
		t.Errorf("%d ballots; want %d", len(whose), 40*mons)
	}
}
