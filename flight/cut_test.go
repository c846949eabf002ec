package flight

import (
	"math"
	"slices"
	"testing"

	"reef/api"
)

// cut cuts a way, and asks for how many frames are lost.
func cut(t *testing.T, f api.Flight, from, to, lost int) api.Flight {
	t.Helper()
	g, n := Cut(f, from, to)
	if n != lost {
		t.Fatalf("Cut(%d, %d): %d lost; want %d", from, to, n, lost)
	}
	return g
}

// join joins a way, and asks whether it was cut.
func join(t *testing.T, f api.Flight, from, to int, was bool) api.Flight {
	t.Helper()
	g, is := Join(f, from, to)
	if is != was {
		t.Fatalf("Join(%d, %d): %v; want %v", from, to, is, was)
	}
	return g
}

// lose loses what goes to a node, and asks for how many frames.
func lose(t *testing.T, f api.Flight, to, lost int) api.Flight {
	t.Helper()
	g, n := Lose(f, to)
	if n != lost {
		t.Fatalf("Lose(%d): %d; want %d", to, n, lost)
	}
	return g
}

// isolate cuts all ways between two sets, and asks for how many frames are lost.
func isolate(t *testing.T, f api.Flight, a, b []int, lost int) api.Flight {
	t.Helper()
	g, n := Isolate(f, a, b)
	if n != lost {
		t.Fatalf("Isolate(%d, %d): %d lost; want %d", a, b, n, lost)
	}
	return g
}

func wantNumbers(t *testing.T, l []int64, want ...int64) {
	t.Helper()
	if !slices.Equal(l, want) {
		t.Fatalf("Numbers %d; want %d", l, want)
	}
}

func wantOldest(t *testing.T, f api.Flight, to int, number int64, is bool) {
	t.Helper()
	if n, ok := Oldest(f, to); n != number || ok != is {
		t.Fatalf("Oldest(%d): %d, %v; want %d, %v", to, n, ok, number, is)
	}
}

// P6.5

func TestCut(t *testing.T) {
	f := mixed()
	l, c := f.List, f.Cut
	g := cut(t, f, 1, 2, 3) // several
	want(t, g, cutting(fl(12, l[1], l[3], l[4], l[5], l[7]), c[0], way(1, 2), c[1], c[2]))
	g = cut(t, f, 1, 3, 1) // one
	want(t, g, cutting(fl(12, l[0], l[1], l[2], l[3], l[5], l[6], l[7]), c[0], way(1, 3), c[1], c[2]))
	g = cut(t, f, 2, 4, 0) // none
	want(t, g, cutting(f, c[0], c[1], way(2, 4), c[2]))
	want(t, f, mixed())
}

func TestCutLiesInItsPlace(t *testing.T) {
	f := cutting(fl(0), way(1, 3), way(1, 5), way(3, 1))
	for i, w := range []api.Way{way(-9, 9), way(1, 2), way(1, 4), way(1, 6), way(2, 9), way(3, 0), way(3, 2), way(9, -9)} {
		g := cut(t, f, w.From, w.To, 0)
		at := []int{0, 0, 1, 2, 2, 2, 3, 3}[i]
		want(t, g, cutting(fl(0), slices.Insert(slices.Clone(f.Cut), at, w)...))
		wantFit(t, g, true)
	}
}

func TestCutOfTheOtherWayRound(t *testing.T) {
	f := fl(2, fr(1, 1, 2, "a"), fr(2, 2, 1, "b"))
	f = cut(t, f, 2, 1, 1)
	want(t, f, cutting(fl(2, fr(1, 1, 2, "a")), way(2, 1)))
	f = cut(t, f, 1, 2, 1)
	want(t, f, cutting(fl(2), way(1, 2), way(2, 1)))
}

func TestCutAgain(t *testing.T) {
	f := mixed()
	g := cut(t, cut(t, f, 1, 2, 3), 1, 2, 0)
	want(t, g, cut(t, f, 1, 2, 3))
	g = cut(t, f, 2, 3, 1) // it is cut, and a frame is on it all the same
	wantList(t, g, f, f.List[0], f.List[1], f.List[2], f.List[3], f.List[4], f.List[6], f.List[7])
	want(t, cut(t, g, 2, 3, 0), g)
}

func TestCutOfANodeWithItself(t *testing.T) {
	for _, n := range []int{3, 1, 0, -1, 99, math.MaxInt, math.MinInt} {
		want(t, cut(t, mixed(), n, n, 0), mixed()) // the frame from 3 to 3 stays
		want(t, cut(t, api.Flight{}, n, n, 0), api.Flight{})
	}
	put(t, cut(t, mixed(), 3, 3, 0), 3, 3, "on")
}

func TestCutOfAFullFlight(t *testing.T) {
	f := many(65536)
	f.List[0].To, f.List[65535].To = 3, 3
	g := cut(t, f, 1, 2, 65534)
	want(t, g, cutting(fl(65536, fr(1, 1, 3, "m"), fr(65536, 1, 3, "m")), way(1, 2)))
	want(t, cut(t, many(65536), 1, 2, 65536), cutting(fl(65536), way(1, 2)))
	g = cut(t, many(65536), 2, 1, 0)
	if len(g.List) != 65536 {
		t.Fatalf("%d frames", len(g.List))
	}
}

func TestCutOfAnyNodes(t *testing.T) {
	f := api.Flight{}
	for _, x := range odd() {
		for _, y := range odd() {
			f = put(t, f, x, y, "n")
		}
	}
	for _, x := range odd() {
		for _, y := range odd() {
			if x != y {
				f = cut(t, f, x, y, 1)
				wantNoPut(t, f, x, y, api.ErrCut)
			}
			wantFit(t, f, true)
		}
	}
	wantFit(t, f, true)
	if len(f.List) != len(odd()) || len(f.Cut) != 90 {
		t.Fatalf("%d frames, %d ways; want those to themselves, and all others", len(f.List), len(f.Cut))
	}
	for _, w := range f.Cut {
		f = join(t, f, w.From, w.To, true)
	}
	if len(f.List) != len(odd()) || len(f.Cut) != 0 {
		t.Fatalf("%d frames, %d ways", len(f.List), len(f.Cut))
	}
}

func TestJoin(t *testing.T) {
	f := mixed()
	c := f.Cut
	want(t, join(t, f, -1, 4, true), cutting(f, c[1], c[2]))
	want(t, join(t, f, 2, 3, true), cutting(f, c[0], c[2])) // what is on it stays there
	want(t, join(t, f, 4, 1, true), cutting(f, c[0], c[1]))
	want(t, f, mixed())
	g := join(t, f, 2, 3, true)
	want(t, join(t, g, 2, 3, false), g)
	put(t, g, 2, 3, "again")
}

func TestJoinOfAWayThatIsNotCut(t *testing.T) {
	for _, w := range []api.Way{way(1, 2), way(3, 2), way(4, -1), way(1, 4), way(-1, 1), way(2, 4), way(9, 9), way(2, 2), way(3, 3), way(math.MaxInt, math.MinInt)} {
		want(t, join(t, mixed(), w.From, w.To, false), mixed())
		want(t, join(t, api.Flight{}, w.From, w.To, false), api.Flight{})
	}
}

// P6.6

func TestLose(t *testing.T) {
	f := mixed()
	l := f.List
	wantList(t, lose(t, f, 2, 4), f, l[1], l[3], l[4], l[5])
	wantList(t, lose(t, f, 1, 1), f, l[0], l[2], l[3], l[4], l[5], l[6], l[7])
	wantList(t, lose(t, f, 3, 3), f, l[0], l[1], l[2], l[6], l[7]) // also the one from itself, and the one on a way that is cut
	for _, to := range []int{0, 4, -1, 9, math.MaxInt, math.MinInt} {
		want(t, lose(t, f, to, 0), f)
		want(t, lose(t, api.Flight{}, to, 0), api.Flight{})
	}
	want(t, f, mixed())
}

func TestLoseAll(t *testing.T) {
	want(t, lose(t, many(65536), 2, 65536), fl(65536))
	want(t, lose(t, cutting(fl(3, fr(1, 5, 2, ""), fr(3, 2, 2, "")), way(5, 2)), 2, 2), cutting(fl(3), way(5, 2)))
	g := lose(t, many(65536), 1, 0) // those are from it
	if len(g.List) != 65536 {
		t.Fatalf("%d frames", len(g.List))
	}
}

func TestLoseOfAnyNodes(t *testing.T) {
	for _, x := range odd() {
		f := fl(4, fr(1, x, 5, ""), fr(2, 5, x, ""), fr(3, x, x, ""), fr(4, 5, 5, ""))
		want(t, lose(t, f, x, 2), fl(4, f.List[0], f.List[3]))
	}
}

// P6.7

func TestOn(t *testing.T) {
	f := mixed()
	wantNumbers(t, On(f, 1, 2), 2, 4, 10)
	wantNumbers(t, On(f, 2, 1), 3)
	wantNumbers(t, On(f, 1, 3), 7)
	wantNumbers(t, On(f, 3, 3), 6)
	wantNumbers(t, On(f, 2, 3), 9) // cut, and a frame is on it
	for _, w := range []api.Way{way(3, 1), way(1, 1), way(2, 2), way(0, 0), way(4, 1), way(-1, 4), way(1, 4), way(9, 2), way(math.MinInt, math.MaxInt)} {
		wantNumbers(t, On(f, w.From, w.To))
		wantNumbers(t, On(api.Flight{}, w.From, w.To))
	}
	l := On(many(65536), 1, 2)
	if len(l) != 65536 || l[0] != 1 || l[65535] != 65536 || !slices.IsSorted(l) {
		t.Fatalf("%d Numbers", len(l))
	}
	wantNumbers(t, On(fl(top, fr(1, 1, 2, ""), fr(top, 1, 2, "")), 1, 2), 1, top)
}

func TestOldest(t *testing.T) {
	f := mixed()
	wantOldest(t, f, 2, 2, true)
	wantOldest(t, f, 1, 3, true)
	wantOldest(t, f, 3, 6, true)
	for _, to := range []int{0, 4, -1, 9, math.MaxInt, math.MinInt} {
		wantOldest(t, f, to, 0, false)
		wantOldest(t, api.Flight{}, to, 0, false)
	}
	f = take(t, f, fr(2, 1, 2, "a"))
	wantOldest(t, f, 2, 4, true)
	wantOldest(t, cut(t, f, 1, 2, 2), 2, 11, true)
	wantOldest(t, lose(t, f, 2, 3), 2, 0, false)
	wantOldest(t, fl(top, fr(top, 1, 2, "")), 2, top, true)
	wantOldest(t, many(65536), 2, 1, true)
	wantOldest(t, many(65536), 1, 0, false)
}

func TestOnAndOldestOfAnyNodes(t *testing.T) {
	var f api.Flight
	for _, x := range odd() {
		for _, y := range odd() {
			f = put(t, f, x, y, "")
		}
	}
	n := int64(len(odd()))
	for i, x := range odd() {
		wantOldest(t, f, x, int64(i+1), true)
		for j, y := range odd() {
			wantNumbers(t, On(f, x, y), int64(i)*n+int64(j)+1)
		}
	}
}
