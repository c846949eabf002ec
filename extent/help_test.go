package extent

import (
	"math"
	"slices"
	"testing"

	"reef/api"
)

// row is the most sectors that a row may have.
const row = 65536

// ex is extents of At and Num, by turns.
func ex(l ...int) []api.Extent {
	var out []api.Extent
	for i := 0; i < len(l); i += 2 {
		out = append(out, api.Extent{At: l[i], Num: l[i+1]})
	}
	return out
}

// odd is numbers that are none of a sector, or near a bound.
func odd() []int {
	return []int{math.MinInt, math.MinInt + 1, -1 << 62, -row, -1, 0, 1, row - 1, row, row + 1, 1 << 62, 1<<62 + 1, math.MaxInt - 1, math.MaxInt}
}

// oddExtents is every pair of odd numbers as an extent.
func oddExtents() []api.Extent {
	var l []api.Extent
	for _, at := range odd() {
		for _, num := range odd() {
			l = append(l, api.Extent{At: at, Num: num})
		}
	}
	return l
}

// spare is the same extents in a list with spare room, in which something stands.
func spare(l []api.Extent) []api.Extent {
	return append(slices.Clone(l), ex(-7, -7, 1, 1, 0, 99)...)[:len(l)]
}

// same asks for a list that is as it was, its spare room too.
func same(t *testing.T, l, was []api.Extent) {
	t.Helper()
	if !slices.Equal(l, was) || !slices.Equal(l[:len(l)+3][len(l):], ex(-7, -7, 1, 1, 0, 99)) {
		t.Fatalf("what went in is %v; want %v", l[:len(l)+3], was)
	}
}

// spoil lays something else over a list and its spare room.
func spoil(l []api.Extent) {
	l = l[:cap(l)]
	for i := range l {
		l[i] = api.Extent{At: -99, Num: -99}
	}
}

func want(t *testing.T, got, l []api.Extent, e, err api.Errno) {
	t.Helper()
	if !slices.Equal(got, l) || e != err {
		t.Fatalf("%v, %v; want %v, %v", got, e, l, err)
	}
}

func wantFit(t *testing.T, total int, l []api.Extent, fit bool) {
	t.Helper()
	if Fit(total, l) != fit {
		t.Fatalf("Fit(%d, %v) is %v", total, l, !fit)
	}
}

func wantTake(t *testing.T, free []api.Extent, n int, taken, left []api.Extent, err api.Errno) {
	t.Helper()
	in := spare(free)
	a, b, e := Take(in, n)
	if !slices.Equal(a, taken) || !slices.Equal(b, left) || e != err {
		t.Fatalf("Take(%v, %d): %v, %v, %v; want %v, %v, %v", free, n, a, b, e, taken, left, err)
	}
	spoil(a)
	if !slices.Equal(b, left) {
		t.Fatalf("Take(%v, %d): both lists share memory", free, n)
	}
	spoil(b)
	same(t, in, free)
}

// wantCall asks a Give or a Claim for its answer, that it shares nothing, and that nothing is changed.
func wantCall(t *testing.T, f func(int, []api.Extent, []api.Extent) ([]api.Extent, api.Errno), total int, free, x, l []api.Extent, err api.Errno) {
	t.Helper()
	in, y := spare(free), spare(x)
	got, e := f(total, in, y)
	if !slices.Equal(got, l) || e != err {
		t.Fatalf("of %d, %v, %v: %v, %v; want %v, %v", total, free, x, got, e, l, err)
	}
	spoil(got)
	same(t, in, free)
	same(t, y, x)
}

func wantGive(t *testing.T, total int, free, back, l []api.Extent) {
	t.Helper()
	wantCall(t, Give, total, free, back, l, api.OK)
}

func wantNoGive(t *testing.T, total int, free, back []api.Extent, err api.Errno) {
	t.Helper()
	wantCall(t, Give, total, free, back, free, err)
}

func wantClaim(t *testing.T, total int, free, x, l []api.Extent) {
	t.Helper()
	wantCall(t, Claim, total, free, x, l, api.OK)
}

func wantNoClaim(t *testing.T, total int, free, x []api.Extent, err api.Errno) {
	t.Helper()
	wantCall(t, Claim, total, free, x, free, err)
}
