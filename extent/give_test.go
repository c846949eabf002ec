package extent

import (
	"slices"
	"testing"

	"reef/api"
)

// P9.4

func TestGive(t *testing.T) {
	free := ex(3, 2, 8, 2, 15, 1)
	for _, c := range [][2][]api.Extent{
		{ex(0, 1), ex(0, 1, 3, 2, 8, 2, 15, 1)}, // touches none
		{ex(0, 3), ex(0, 5, 8, 2, 15, 1)},       // the one behind
		{ex(5, 1), ex(3, 3, 8, 2, 15, 1)},       // the one ahead
		{ex(5, 3), ex(3, 7, 15, 1)},             // both
		{ex(6, 1), ex(3, 2, 6, 1, 8, 2, 15, 1)}, // neither
		{ex(16, 4), ex(3, 2, 8, 2, 15, 5)},      // to the row's end
		{ex(5, 1, 6, 1, 7, 1), ex(3, 7, 15, 1)}, // one another
		{ex(7, 1, 5, 1, 6, 1), ex(3, 7, 15, 1)}, // in any order
		{ex(16, 4, 10, 5, 5, 3, 0, 3), ex(0, 20)},
		{ex(10, 5, 0, 3, 16, 4, 5, 3), ex(0, 20)},
		{ex(12, 1, 1, 1), ex(1, 1, 3, 2, 8, 2, 12, 1, 15, 1)},
		{nil, free},
	} {
		wantGive(t, 20, free, c[0], c[1])
	}
	wantGive(t, 10, ex(3, 7), ex(1, 2), ex(1, 9))
	wantGive(t, 10, nil, ex(0, 10), ex(0, 10))
	wantGive(t, 10, nil, ex(5, 5, 0, 5), ex(0, 10))
	wantGive(t, 10, nil, ex(4, 1), ex(4, 1))
	wantGive(t, 10, ex(0, 10), nil, ex(0, 10))
	wantGive(t, row, ex(0, row-1), ex(row-1, 1), ex(0, row))
	wantGive(t, row, nil, ex(1, row-1, 0, 1), ex(0, row))
	wantGive(t, 1, nil, ex(0, 1), ex(0, 1))
	wantGive(t, 0, nil, nil, nil)
}

func TestGiveOfWhatIsNone(t *testing.T) {
	free := ex(3, 2, 8, 2)
	for _, back := range [][]api.Extent{
		ex(0, 0), ex(3, 0), ex(10, 0), ex(0, -1), ex(5, -2), // a Num below 1
		ex(-1, 1), ex(-1, 2), ex(10, 1), ex(10, 2), ex(9, 2), ex(0, 11), ex(1, 10), // not in the row
		ex(0, 1, 7, -1), ex(11, 1, 0, 1), ex(0, 1, 1, 1, -1, 1, 2, 1), // one of them
		ex(3, 1, 0, 0), ex(3, 1, 12, 1), ex(0, 1, 0, 1, 0, 0), // ahead of ErrHave
	} {
		wantNoGive(t, 10, free, back, api.ErrNumber)
	}
	wantNoGive(t, 0, nil, ex(0, 1), api.ErrNumber)
	wantNoGive(t, 1, nil, ex(0, 2), api.ErrNumber)
	wantNoGive(t, 1, nil, ex(1, 1), api.ErrNumber)
	wantNoGive(t, row, nil, ex(1, row), api.ErrNumber)
	wantNoGive(t, row, nil, ex(0, row+1), api.ErrNumber)
	wantNoGive(t, row, nil, ex(row, 1), api.ErrNumber)
}

func TestGiveOfOddExtents(t *testing.T) {
	for _, total := range []int{0, 1, row - 1, row} {
		for _, x := range oddExtents() {
			if l := []api.Extent{x}; Fit(total, l) {
				wantGive(t, total, nil, l, l)
			} else {
				wantNoGive(t, total, nil, l, api.ErrNumber)
			}
		}
	}
}

func TestGiveOfWhatIsFree(t *testing.T) {
	free := ex(3, 2, 8, 2)
	for _, back := range [][]api.Extent{
		ex(3, 1), ex(4, 1), ex(3, 2), ex(2, 2), ex(4, 2), ex(0, 10), ex(9, 1), ex(5, 4), ex(2, 8), // free
		ex(0, 1, 3, 1), ex(9, 1, 0, 1), ex(5, 3, 2, 2), // one of them
		ex(0, 1, 0, 1), ex(0, 2, 1, 1), ex(1, 1, 0, 2), ex(0, 3, 1, 1), ex(1, 1, 0, 3), ex(6, 1, 0, 1, 6, 1), // twice
		ex(0, 1, 6, 1, 1, 1, 0, 1), ex(6, 2, 0, 3, 2, 1),
	} {
		wantNoGive(t, 10, free, back, api.ErrHave)
	}
	wantNoGive(t, 10, All(10), ex(0, 1), api.ErrHave)
	wantNoGive(t, row, All(row), ex(row-1, 1), api.ErrHave)
	wantNoGive(t, 1, All(1), All(1), api.ErrHave)
}

// P9.5

func TestClaim(t *testing.T) {
	free := ex(0, 3, 5, 5, 15, 5)
	for _, c := range [][2][]api.Extent{
		{ex(0, 1), ex(1, 2, 5, 5, 15, 5)}, // an extent's beginning
		{ex(2, 1), ex(0, 2, 5, 5, 15, 5)}, // its end
		{ex(0, 3), ex(5, 5, 15, 5)},       // all of it
		{ex(5, 5), ex(0, 3, 15, 5)},
		{ex(15, 5), ex(0, 3, 5, 5)},
		{ex(6, 2), ex(0, 3, 5, 1, 8, 2, 15, 5)}, // its middle
		{ex(6, 1, 8, 1), ex(0, 3, 5, 1, 7, 1, 9, 1, 15, 5)},
		{ex(8, 1, 6, 1, 7, 1), ex(0, 3, 5, 1, 9, 1, 15, 5)}, // in any order
		{ex(19, 1, 0, 1), ex(1, 2, 5, 5, 15, 4)},
		{ex(15, 5, 5, 2, 0, 3, 7, 3), nil},
		{nil, free},
	} {
		wantClaim(t, 20, free, c[0], c[1])
	}
	wantClaim(t, 10, All(10), ex(4, 2), ex(0, 4, 6, 4))
	wantClaim(t, 10, All(10), All(10), nil)
	wantClaim(t, 10, All(10), ex(0, 1), ex(1, 9))
	wantClaim(t, 10, All(10), ex(9, 1), ex(0, 9))
	wantClaim(t, row, All(row), ex(row-1, 1), ex(0, row-1))
	wantClaim(t, row, All(row), ex(0, row), nil)
	wantClaim(t, 1, All(1), All(1), nil)
	wantClaim(t, 0, nil, nil, nil)
	wantClaim(t, 5, nil, nil, nil)
	wantClaim(t, 5, ex(1, 2), nil, ex(1, 2))
}

func TestClaimOfWhatIsNone(t *testing.T) {
	free := ex(3, 2, 8, 2)
	for _, x := range [][]api.Extent{
		ex(3, 0), ex(0, 0), ex(10, 0), ex(4, -1), ex(8, -2),
		ex(-1, 1), ex(-1, 5), ex(10, 1), ex(9, 2), ex(0, 11), ex(8, 3),
		ex(3, 1, 4, -1), ex(11, 1, 3, 1), ex(3, 1, -1, 1, 4, 1),
		ex(0, 1, 3, 0), ex(0, 1, 12, 1), ex(3, 1, 3, 1, 3, 0), // ahead of ErrNone
	} {
		wantNoClaim(t, 10, free, x, api.ErrNumber)
	}
	wantNoClaim(t, 0, nil, ex(0, 1), api.ErrNumber)
	wantNoClaim(t, 1, All(1), ex(0, 2), api.ErrNumber)
	wantNoClaim(t, row, All(row), ex(1, row), api.ErrNumber)
	wantNoClaim(t, row, All(row), ex(0, row+1), api.ErrNumber)
}

func TestClaimOfOddExtents(t *testing.T) {
	for _, total := range []int{0, 1, row - 1, row} {
		for _, x := range oddExtents() {
			if l := []api.Extent{x}; Fit(total, l) {
				wantClaim(t, total, l, l, nil)
				wantNoClaim(t, total, nil, l, api.ErrNone)
			} else {
				wantNoClaim(t, total, All(total), l, api.ErrNumber)
			}
		}
	}
}

func TestClaimOfWhatIsNotFree(t *testing.T) {
	free := ex(3, 2, 8, 2)
	for _, x := range [][]api.Extent{
		ex(0, 1), ex(2, 1), ex(5, 1), ex(7, 1), ex(2, 2), ex(4, 2), ex(0, 10), ex(3, 7), ex(5, 3), ex(7, 2), ex(3, 3), // not free
		ex(3, 1, 0, 1), ex(5, 1, 3, 2), ex(3, 2, 8, 2, 5, 1), // one of them
		ex(3, 1, 3, 1), ex(3, 2, 4, 1), ex(4, 1, 3, 2), ex(3, 2, 3, 1), ex(3, 1, 8, 1, 3, 1), ex(8, 2, 3, 2, 8, 1), // twice
	} {
		wantNoClaim(t, 10, free, x, api.ErrNone)
	}
	wantNoClaim(t, 10, ex(0, 4, 6, 4), ex(5, 1), api.ErrNone)
	wantNoClaim(t, 1, nil, All(1), api.ErrNone)
	wantNoClaim(t, row, ex(0, row-1), ex(row-1, 1), api.ErrNone)
}

// many is every second sector of a greatest row, from one on.
func many(at int) []api.Extent {
	var l []api.Extent
	for ; at < row; at += 2 {
		l = append(l, api.Extent{At: at, Num: 1})
	}
	return l
}

func TestGiveAndClaimOfMany(t *testing.T) {
	back := many(1)
	slices.Reverse(back)
	wantGive(t, row, many(0), back, All(row))
	wantClaim(t, row, All(row), back, many(0))
	wantNoGive(t, row, many(0), many(0), api.ErrHave)
	wantNoClaim(t, row, many(0), many(1), api.ErrNone)
	wantClaim(t, row, many(1), back, nil)
}

// 0.1: whatever they are given.
func TestGiveAndClaimOfUnfit(t *testing.T) {
	odds := oddExtents()
	for i, x := range odds {
		y, z := odds[(i*5+3)%len(odds)], odds[(i*3+7)%len(odds)]
		for _, total := range odd() {
			for _, l := range [][]api.Extent{nil, {z}, {z, x}, ex(0, 1)} {
				_, _ = Give(total, []api.Extent{x, y}, l)
				_, _ = Claim(total, []api.Extent{x, y}, l)
			}
		}
	}
}
