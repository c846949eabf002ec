package extent

import (
	"math"
	"testing"

	"reef/api"
)

// P9.3, P9.10

func TestTakeOfTheFirstThatHasEnough(t *testing.T) {
	free := ex(0, 2, 5, 3, 10, 3, 20, 9)
	wantTake(t, free, 1, ex(0, 1), ex(1, 1, 5, 3, 10, 3, 20, 9), api.OK)
	wantTake(t, free, 2, ex(0, 2), ex(5, 3, 10, 3, 20, 9), api.OK)
	wantTake(t, free, 3, ex(5, 3), ex(0, 2, 10, 3, 20, 9), api.OK)
	wantTake(t, free, 4, ex(20, 4), ex(0, 2, 5, 3, 10, 3, 24, 5), api.OK)
	wantTake(t, free, 9, ex(20, 9), ex(0, 2, 5, 3, 10, 3), api.OK)
	wantTake(t, ex(4, 5), 5, ex(4, 5), nil, api.OK)
	wantTake(t, ex(4, 5), 2, ex(4, 2), ex(6, 3), api.OK)
	wantTake(t, All(10), 3, ex(0, 3), ex(3, 7), api.OK)
}

func TestTakeOfSeveral(t *testing.T) {
	free := ex(0, 2, 5, 3, 10, 3, 20, 1)
	wantTake(t, free, 4, ex(0, 2, 5, 2), ex(7, 1, 10, 3, 20, 1), api.OK)
	wantTake(t, free, 5, ex(0, 2, 5, 3), ex(10, 3, 20, 1), api.OK)
	wantTake(t, free, 6, ex(0, 2, 5, 3, 10, 1), ex(11, 2, 20, 1), api.OK)
	wantTake(t, free, 8, ex(0, 2, 5, 3, 10, 3), ex(20, 1), api.OK)
	wantTake(t, ex(0, 2, 5, 3), 4, ex(0, 2, 5, 2), ex(7, 1), api.OK)
	wantTake(t, ex(0, 2, 5, 3), 3, ex(5, 3), ex(0, 2), api.OK)
	wantTake(t, ex(1, 5, 9, 2), 6, ex(1, 5, 9, 1), ex(10, 1), api.OK)
}

func TestTakeOfWhatIsFree(t *testing.T) {
	free := ex(0, 2, 5, 3, 10, 3, 20, 1)
	wantTake(t, free, 9, free, nil, api.OK)
	wantTake(t, free, 10, nil, free, api.ErrSpace)
	wantTake(t, All(row), row, All(row), nil, api.OK)
	wantTake(t, All(row), row+1, nil, All(row), api.ErrSpace)
	wantTake(t, ex(0, 2, 5, 3), 6, nil, ex(0, 2, 5, 3), api.ErrSpace)
	wantTake(t, nil, 1, nil, nil, api.ErrSpace)
	for _, n := range odd() {
		if n > row {
			wantTake(t, free, n, nil, free, api.ErrSpace)
			wantTake(t, All(row), n, nil, All(row), api.ErrSpace)
		}
	}
}

func TestTakeOfNothing(t *testing.T) {
	wantTake(t, ex(0, 2, 5, 3), 0, nil, ex(0, 2, 5, 3), api.OK)
	wantTake(t, nil, 0, nil, nil, api.OK)
	wantTake(t, All(row), 0, nil, All(row), api.OK)
}

func TestTakeOfLessThanNothing(t *testing.T) {
	for _, n := range odd() {
		if n < 0 {
			wantTake(t, ex(0, 2, 5, 3), n, nil, ex(0, 2, 5, 3), api.ErrNumber)
			wantTake(t, nil, n, nil, nil, api.ErrNumber)
		}
	}
}

func TestTakeOfMany(t *testing.T) {
	var free []api.Extent
	for at := 1; at < row; at += 2 {
		free = append(free, api.Extent{At: at, Num: 1})
	}
	wantTake(t, free, 1, free[:1], free[1:], api.OK)
	wantTake(t, free, 20000, free[:20000], free[20000:], api.OK)
	wantTake(t, free, row/2, free, nil, api.OK)
	wantTake(t, free, row/2+1, nil, free, api.ErrSpace)
}

// 0.1: whatever it is given.
func TestTakeOfUnfit(t *testing.T) {
	odds := oddExtents()
	for i, x := range odds {
		for _, n := range odd() {
			_, _, _ = Take([]api.Extent{x, odds[(i*7+5)%len(odds)]}, n)
		}
	}
	_, _, _ = Take(ex(0, math.MaxInt, 0, math.MaxInt, 0, math.MaxInt), math.MaxInt)
	_, _, _ = Take(ex(0, math.MinInt, 0, math.MaxInt, 0, math.MinInt), 1)
}
