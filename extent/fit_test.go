package extent

import (
	"slices"
	"testing"

	"reef/api"
)

// P9.1

func TestFit(t *testing.T) {
	for _, l := range [][]api.Extent{nil, {}, ex(0, 10), ex(0, 1), ex(9, 1), ex(0, 2, 3, 7), ex(1, 1, 3, 1, 5, 1, 7, 1, 9, 1), ex(0, 4, 5, 5)} {
		wantFit(t, 10, l, true)
	}
	for _, l := range [][]api.Extent{
		ex(0, 0), ex(3, 0), ex(10, 0), ex(3, -1), ex(0, 2, 5, 0), ex(5, 0, 7, 1), // a Num below 1
		ex(-1, 1), ex(-1, 2), ex(0, 11), ex(9, 2), ex(10, 1), ex(11, 1), ex(0, 2, 9, 2), // not in the row
		ex(3, 1, 1, 1), ex(5, 2, 0, 2), ex(0, 1, 5, 1, 3, 1), // they do not rise
		ex(0, 2, 2, 2), ex(0, 1, 1, 1), ex(0, 1, 3, 2, 5, 1), // they touch
		ex(0, 3, 2, 2), ex(3, 1, 3, 1), ex(0, 10, 0, 10), ex(0, 9, 3, 2), // a sector stands in two
	} {
		wantFit(t, 10, l, false)
	}
}

func TestFitOfRows(t *testing.T) {
	for _, total := range odd() {
		wantFit(t, total, nil, total >= 0 && total <= row)
		wantFit(t, total, ex(0, 1), total >= 1 && total <= row)
		wantFit(t, total, ex(0, total), total >= 1 && total <= row)
		wantFit(t, total, ex(0, total, 0, total), false)
	}
	wantFit(t, row, ex(row-1, 1), true)
	wantFit(t, row, ex(row, 1), false)
	wantFit(t, row+1, ex(row-1, 1), false)
	wantFit(t, row, ex(1, row), false)
}

func TestFitOfOddExtents(t *testing.T) {
	for _, total := range []int{0, 1, row - 1, row} {
		for _, x := range oddExtents() {
			is := x.At >= 0 && x.At < total && x.Num >= 1 && x.Num <= row && x.At+x.Num <= total
			wantFit(t, total, []api.Extent{x}, is)
			wantFit(t, total, []api.Extent{x, x}, false)
		}
	}
	for _, total := range []int{-1, row + 1, 1 << 62} {
		for _, x := range oddExtents() {
			wantFit(t, total, []api.Extent{x}, false)
		}
	}
}

func TestFitOfMany(t *testing.T) {
	var l []api.Extent
	for at := 0; at < row; at += 2 {
		l = append(l, api.Extent{At: at, Num: 1})
	}
	wantFit(t, row, l, true)
	wantFit(t, row-1, l, true)
	wantFit(t, row-2, l, false)
	l[20000].Num = 2
	wantFit(t, row, l, false)
}

// What lies in a list's spare room plays no part (0.5).
func TestFitLeavesWhatGoesIn(t *testing.T) {
	l := ex(0, 2, 3, 7)
	in := spare(l)
	wantFit(t, 10, in, true)
	same(t, in, l)
}

// P9.2

func TestAll(t *testing.T) {
	for _, total := range []int{1, 2, 10, 4096, row - 1, row} {
		if l := All(total); !slices.Equal(l, ex(0, total)) {
			t.Fatalf("All(%d) is %v", total, l)
		}
		wantFit(t, total, All(total), true)
	}
	for _, total := range odd() {
		if l := All(total); len(l) != 0 && (total < 1 || total > row) {
			t.Fatalf("All(%d) is %v", total, l)
		}
	}
	a := All(5)
	spoil(a)
	if l := All(5); !slices.Equal(l, ex(0, 5)) {
		t.Fatalf("All(5) is %v", l)
	}
}
