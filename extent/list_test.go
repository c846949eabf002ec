package extent

import (
	"math"
	"slices"
	"testing"

	"reef/api"
)

// P9.6

func TestCount(t *testing.T) {
	for _, c := range []struct {
		l []api.Extent
		n int
	}{
		{nil, 0}, {ex(0, 10), 10}, {ex(0, 2, 5, 3), 5}, {ex(5, 3, 5, 3, 0, 9), 15}, // in any order, and twice
		{ex(0, 0), 0}, {ex(0, -1), 0}, {ex(0, 4, 2, -3, 9, 2), 6}, {ex(0, math.MinInt, 1, 5), 5},
		{ex(-5, 3, math.MinInt, 1, math.MaxInt, 2), 6}, // wherever they lie
		{ex(0, row, 0, row), 2 * row},
	} {
		in := spare(c.l)
		if n := Count(in); n != c.n {
			t.Fatalf("Count(%v) is %d; want %d", c.l, n, c.n)
		}
		same(t, in, c.l)
	}
}

func TestCountOfMany(t *testing.T) {
	if n := Count(slices.Repeat(ex(3, row), row)); n != row*row {
		t.Fatalf("%d", n)
	}
	_ = Count(slices.Repeat(ex(0, math.MaxInt), 5))
}

// P9.7

func wantSectors(t *testing.T, l []api.Extent, out ...int) {
	t.Helper()
	in := spare(l)
	got := Sectors(in)
	if !slices.Equal(got, out) {
		t.Fatalf("Sectors(%v) is %v; want %v", l, got, out)
	}
	same(t, in, l)
}

func TestSectors(t *testing.T) {
	wantSectors(t, nil)
	wantSectors(t, ex(4, 1), 4)
	wantSectors(t, ex(0, 3, 7, 2), 0, 1, 2, 7, 8)
	wantSectors(t, ex(7, 2, 0, 3, 8, 1), 7, 8, 0, 1, 2, 8) // as they stand
	wantSectors(t, ex(5, 2, 5, 2), 5, 6, 5, 6)
	wantSectors(t, ex(3, 0, 4, -1, 5, 1, 6, math.MinInt), 5)
	wantSectors(t, ex(row-1, 3), row-1, row, row+1) // a row has no say
}

func TestSectorsNearTheBounds(t *testing.T) {
	wantSectors(t, ex(1<<62, 2), 1<<62, 1<<62+1)
	wantSectors(t, ex(1<<62+1, 1, 2, 1, math.MaxInt, 1, math.MaxInt, 2), 2)
	wantSectors(t, ex(-1, 1, -1, 3, 2, 1, math.MinInt, 5, -row, row), 2)
	wantSectors(t, ex(0, row+1, 2, 1, 0, math.MaxInt, 1, 1<<62), 2)
	if l := Sectors(ex(7, row)); len(l) != row || l[0] != 7 || l[row-1] != row+6 || !slices.IsSorted(l) {
		t.Fatalf("%d sectors", len(l))
	}
	if l := Sectors(ex(1<<62, row)); len(l) != row || l[row-1] != 1<<62+row-1 {
		t.Fatalf("%d sectors", len(l))
	}
	for _, x := range oddExtents() {
		n := x.Num
		if n < 0 || n > row || x.At < 0 || x.At > 1<<62 {
			n = 0
		}
		if l := Sectors([]api.Extent{x}); len(l) != n || n > 0 && (l[0] != x.At || l[n-1] != x.At+n-1) {
			t.Fatalf("Sectors(%v) is %d numbers; want %d", x, len(l), n)
		}
	}
}

// P9.8

func wantPack(t *testing.T, l []int, out ...int) {
	t.Helper()
	in := append(slices.Clone(l), 1, 2, 3)[:len(l)]
	got := Pack(in)
	if !slices.Equal(got, ex(out...)) {
		t.Fatalf("Pack(%v) is %v; want %v", l, got, ex(out...))
	}
	if !slices.Equal(in[:len(l)+3], append(slices.Clone(l), 1, 2, 3)) {
		t.Fatalf("Pack(%v): what went in is %v", l, in[:len(l)+3])
	}
}

func TestPack(t *testing.T) {
	wantPack(t, nil)
	wantPack(t, []int{0}, 0, 1)
	wantPack(t, []int{5, 3, 4, 9, 3}, 3, 3, 9, 1)
	wantPack(t, []int{1, 2, 3}, 1, 3)
	wantPack(t, []int{3, 2, 1}, 1, 3)
	wantPack(t, []int{7, 7, 7, 7}, 7, 1)
	wantPack(t, []int{7, 8, 7, 8, 10, 10}, 7, 2, 10, 1)
	wantPack(t, []int{8, 0, 4, 2, 6}, 0, 1, 2, 1, 4, 1, 6, 1, 8, 1)
	wantPack(t, []int{row, row - 1, row + 1, 0, -1, 1}, 0, 2, row-1, 1)
	wantPack(t, odd(), 0, 2, row-1, 1)
	wantPack(t, []int{-1, -5, row, math.MaxInt, math.MinInt})
}

func TestPackOfMany(t *testing.T) {
	var l []int
	for n := row + 9; n > -9; n-- {
		l = append(l, n, n)
	}
	if x := Pack(l); !slices.Equal(x, All(row)) {
		t.Fatalf("%d extents", len(x))
	}
	if x := Pack(slices.Repeat([]int{9, 7}, 1<<20)); !slices.Equal(x, ex(7, 1, 9, 1)) {
		t.Fatalf("%v", x)
	}
}
