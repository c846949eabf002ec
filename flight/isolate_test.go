package flight

import (
	"math"
	"math/rand"
	"testing"

	"reef/api"
)

// crossed is a flight with a frame on each way among n nodes, those to themselves too.
func crossed(n int) api.Flight {
	var f api.Flight
	for x := range n {
		for y := range n {
			f.Next++
			f.List = append(f.List, fr(f.Next, x, y, "c"))
		}
	}
	return f
}

// oneByOne isolates as the chapter says it: cut by cut.
func oneByOne(f api.Flight, a, b []int) (api.Flight, int) {
	lost := 0
	for _, x := range a {
		for _, y := range b {
			there, n := Cut(f, x, y)
			back, m := Cut(there, y, x)
			f, lost = back, lost+n+m
		}
	}
	return f, lost
}

// P6.8

func TestIsolate(t *testing.T) {
	f := crossed(4)
	g := isolate(t, f, []int{0}, []int{3}, 2)
	if len(g.List) != 14 {
		t.Fatalf("%d frames", len(g.List))
	}
	want(t, g, api.Flight{Next: 16, List: g.List, Cut: []api.Way{way(0, 3), way(3, 0)}})
	wantNumbers(t, On(g, 0, 3))
	wantNumbers(t, On(g, 3, 0))
	g = isolate(t, f, []int{3, 1}, []int{0, 2}, 8)
	want(t, g, api.Flight{Next: 16, List: g.List, Cut: []api.Way{
		way(0, 1), way(0, 3), way(1, 0), way(1, 2), way(2, 1), way(2, 3), way(3, 0), way(3, 2)}})
	for x := range 4 {
		for y := range 4 {
			if on := len(On(g, x, y)) == 1; on != (x%2 == y%2) {
				t.Errorf("a frame from %d to %d: %v", x, y, on)
			}
		}
	}
	want(t, f, crossed(4))
}

func TestIsolateOfEmptySets(t *testing.T) {
	for _, a := range [][]int{nil, {}} {
		for _, b := range [][]int{nil, {}, {1}, {1, 2, 3}} {
			want(t, isolate(t, mixed(), a, b, 0), mixed())
			want(t, isolate(t, mixed(), b, a, 0), mixed())
			want(t, isolate(t, api.Flight{}, a, b, 0), api.Flight{})
		}
	}
}

func TestIsolateOfANodeTwice(t *testing.T) {
	f := mixed()
	g := isolate(t, f, []int{1}, []int{2}, 4)
	want(t, isolate(t, f, []int{1, 1}, []int{2}, 4), g)
	want(t, isolate(t, f, []int{1}, []int{2, 2, 2}, 4), g)
	want(t, isolate(t, f, []int{1, 1, 1}, []int{2, 2}, 4), g)
	f = crossed(5)
	g = isolate(t, f, []int{4, 0}, []int{1, 3}, 8)
	want(t, isolate(t, f, []int{4, 0, 4}, []int{3, 1, 3, 1}, 8), g) // also where others stand between
}

func TestIsolateOfANodeInBothSets(t *testing.T) {
	f := crossed(3)
	want(t, isolate(t, f, []int{1}, []int{1}, 0), f) // the way from a node to itself is never cut
	g := isolate(t, f, []int{1}, []int{1, 2}, 2)
	want(t, g, isolate(t, f, []int{1}, []int{2}, 2))
	g = isolate(t, f, []int{0, 1, 2}, []int{2, 0, 1}, 6)
	want(t, g, api.Flight{Next: 9, List: []api.Frame{f.List[0], f.List[4], f.List[8]},
		Cut: []api.Way{way(0, 1), way(0, 2), way(1, 0), way(1, 2), way(2, 0), way(2, 1)}})
}

func TestIsolateOfWaysThatAreCut(t *testing.T) {
	f := mixed()
	l := f.List
	g := isolate(t, f, []int{3, 4}, []int{2, 1}, 3) // the frame on the way from 2 to 3, which is cut, goes too
	want(t, g, api.Flight{Next: 12, List: []api.Frame{l[0], l[1], l[2], l[3], l[6]},
		Cut: []api.Way{way(-1, 4), way(1, 3), way(1, 4), way(2, 3), way(2, 4), way(3, 1), way(3, 2), way(4, 1), way(4, 2)}})
	want(t, isolate(t, g, []int{1, 2}, []int{3, 4}, 0), g)
	h := isolate(t, f, []int{1}, []int{4}, 0) // the frame on a cut way of others stays
	want(t, h, cutting(f, way(-1, 4), way(1, 4), way(2, 3), way(4, 1)))
}

func TestIsolateCountsAllThatIsLost(t *testing.T) {
	f := many(65536)
	want(t, isolate(t, f, []int{2}, []int{1}, 65536), cutting(fl(65536), way(1, 2), way(2, 1)))
	for i := range f.List {
		f.List[i].From, f.List[i].To = i%3, (i/3)%3
	}
	lost := between(f, 0, 1) + between(f, 0, 2)
	g := isolate(t, f, []int{0}, []int{1, 2}, lost)
	if len(g.List) != 65536-lost {
		t.Fatalf("%d frames", len(g.List))
	}
}

// between is how many frames are between two nodes, both ways round.
func between(f api.Flight, x, y int) int {
	n := 0
	for _, l := range f.List {
		if l.From == x && l.To == y || l.From == y && l.To == x {
			n++
		}
	}
	return n
}

func TestIsolateOfAnyNodes(t *testing.T) {
	a, b := []int{math.MaxInt, -1, 0}, []int{math.MinInt, 1 << 32, -1}
	f := fl(9, fr(1, math.MaxInt, math.MinInt, ""), fr(3, -1, -1, ""), fr(4, -1, math.MaxInt, ""), fr(6, 1<<32, 0, ""), fr(9, 1, 0, ""))
	g := isolate(t, f, a, b, 3)
	wantFit(t, g, true)
	wantList(t, g, cutting(f, g.Cut...), f.List[1], f.List[4])
	if len(g.Cut) != 16 {
		t.Fatalf("%d ways: %v", len(g.Cut), g.Cut)
	}
	want(t, isolate(t, f, b, a, 3), g)
}

func TestIsolateOfLongRows(t *testing.T) {
	a, b := make([]int, 100000), make([]int, 100000)
	for i := range a {
		a[i], b[i] = i%3, i%2
	}
	want(t, isolate(t, crossed(4), a, b, 6), isolate(t, crossed(4), []int{0, 1, 2}, []int{0, 1}, 6))
	for i := range 300 {
		a[i], b[i] = i, -i-1
	}
	g := isolate(t, api.Flight{}, a[:300], b[:300], 0)
	if len(g.Cut) != 2*300*300 || !Fit(g) {
		t.Fatalf("%d ways", len(g.Cut))
	}
}

func TestIsolateIsCutByCut(t *testing.T) {
	r := rand.New(rand.NewSource(62))
	some := func() []int {
		l := make([]int, r.Intn(6))
		for i := range l {
			l[i] = r.Intn(7) - 1
		}
		return l
	}
	for range 500 {
		f := someFlight(r)
		a, b := some(), some()
		g, n := oneByOne(f, a, b)
		want(t, isolate(t, f, a, b, n), g)
		wantFit(t, g, true)
	}
}

// P6.10

func TestNothingIsPutBetweenWhatIsIsolated(t *testing.T) {
	a, b := []int{0, 2, 5}, []int{1, 3}
	f := isolate(t, crossed(6), a, b, 12)
	for range 2 {
		for _, x := range a {
			for _, y := range b {
				wantNoPut(t, f, x, y, api.ErrCut)
				wantNoPut(t, f, y, x, api.ErrCut)
				wantNumbers(t, On(f, x, y))
				wantNumbers(t, On(f, y, x))
			}
		}
		for _, w := range []api.Way{way(0, 2), way(5, 0), way(3, 1), way(1, 4), way(4, 5), way(0, 0)} {
			f = put(t, f, w.From, w.To, "inside")
		}
		f = lose(t, join(t, f, 0, 4, false), 9, 0)
		f, _, _ = Double(f, 1)
	}
	f = join(t, f, 2, 3, true) // this way alone goes again
	f = put(t, f, 2, 3, "through")
	wantNoPut(t, f, 3, 2, api.ErrCut)
	wantNoPut(t, f, 2, 1, api.ErrCut)
	wantNoPut(t, f, 0, 3, api.ErrCut)
}

// P6.11

func TestCutTwiceIsCutOnce(t *testing.T) {
	r := rand.New(rand.NewSource(63))
	for range 300 {
		f := someFlight(r)
		x, y := r.Intn(6), r.Intn(6)
		g, _ := Cut(f, x, y)
		want(t, cut(t, g, x, y, 0), g)
	}
}

func TestJoinBehindCut(t *testing.T) {
	r := rand.New(rand.NewSource(64))
	for range 300 {
		f := someFlight(r)
		x, y := r.Intn(6), r.Intn(6)
		was := false
		for _, w := range f.Cut {
			was = was || w == way(x, y)
		}
		g, _ := Cut(f, x, y)
		h := join(t, g, x, y, x != y)
		if !was {
			want(t, h, api.Flight{Next: f.Next, List: g.List, Cut: f.Cut})
		}
		want(t, join(t, h, x, y, false), h)
		if x != y {
			put(t, belowTop(h), x, y, "goes")
		}
	}
}

// belowTop is a flight whose Numbers are not at their end.
func belowTop(f api.Flight) api.Flight {
	f.Next = min(f.Next, top-1)
	return f
}

// The chapter's examples.

func TestExampleOfCut(t *testing.T) {
	f := put(t, api.Flight{}, 1, 2, "a")
	f = put(t, f, 2, 1, "b")
	f, n, e := Double(f, 1)
	if n != 3 || e != api.OK {
		t.Fatalf("Double: %d, %v", n, e)
	}
	wantNumbers(t, On(f, 1, 2), 1, 3)
	wantOldest(t, f, 1, 2, true)
	f = cut(t, f, 1, 2, 2)
	wantNoPut(t, f, 1, 2, api.ErrCut)
	f = put(t, f, 2, 1, "c")
	want(t, f, cutting(fl(4, fr(2, 2, 1, "b"), fr(4, 2, 1, "c")), way(1, 2)))
}

func TestExampleOfIsolate(t *testing.T) {
	f := isolate(t, api.Flight{}, []int{1}, []int{2, 3}, 0)
	want(t, f, cutting(fl(0), way(1, 2), way(1, 3), way(2, 1), way(3, 1)))
	wantNoFrame(t, f, 9)
}
