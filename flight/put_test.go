package flight

import (
	"math"
	"strings"
	"testing"

	"reef/api"
)

// put puts what can be put, and asks for the Number that comes next.
func put(t *testing.T, f api.Flight, from, to int, body string) api.Flight {
	t.Helper()
	g, n, e := Put(f, from, to, body)
	if n != f.Next+1 || e != api.OK {
		t.Fatalf("Put(%d, %d): %d, %v; want %d", from, to, n, e, f.Next+1)
	}
	return g
}

// wantNoPut asks for an error, nothing beside it, and the flight as it was.
func wantNoPut(t *testing.T, f api.Flight, from, to int, err api.Errno) {
	t.Helper()
	g, n, e := Put(f, from, to, "x")
	if n != 0 || e != err {
		t.Fatalf("Put(%d, %d): %d, %v; want %v", from, to, n, e, err)
	}
	want(t, g, f)
}

// take takes what can be taken, and asks for the frame.
func take(t *testing.T, f api.Flight, x api.Frame) api.Flight {
	t.Helper()
	g, y, e := Take(f, x.Number)
	if y != x || e != api.OK {
		t.Fatalf("Take(%d): %v, %v; want %v", x.Number, y, e, x)
	}
	return g
}

// wantNoFrame asks Take and Double for no frame, and the flight as it was.
func wantNoFrame(t *testing.T, f api.Flight, number int64) {
	t.Helper()
	g, x, e := Take(f, number)
	if x != (api.Frame{}) || e != api.ErrNone {
		t.Fatalf("Take(%d): %v, %v; want %v", number, x, e, api.ErrNone)
	}
	want(t, g, f)
	wantNoDouble(t, f, number, api.ErrNone)
}

func wantNoDouble(t *testing.T, f api.Flight, number int64, err api.Errno) {
	t.Helper()
	g, n, e := Double(f, number)
	if n != 0 || e != err {
		t.Fatalf("Double(%d): %d, %v; want %v", number, n, e, err)
	}
	want(t, g, f)
}

// P6.2

func TestPut(t *testing.T) {
	f := put(t, api.Flight{}, 1, 2, "a")
	want(t, f, fl(1, fr(1, 1, 2, "a")))
	f = put(t, f, 2, 1, "")
	f = put(t, f, 1, 2, "a") // the same once more is a frame of its own
	want(t, f, fl(3, fr(1, 1, 2, "a"), fr(2, 2, 1, ""), fr(3, 1, 2, "a")))
	f = put(t, mixed(), 7, 8, "z") // Numbers go on from Next, not from the last frame's
	wantList(t, f, cutting(fl(13), mixed().Cut...), append(mixed().List, fr(13, 7, 8, "z"))...)
}

func TestPutOfAnyBody(t *testing.T) {
	var f api.Flight
	for i, s := range []string{"", "\x00", "\xff\xfe", "ä\n", strings.Repeat("long ", 1<<18)} {
		f = put(t, f, 1, 2, s)
		if len(f.List) != i+1 || f.List[i].Body != s {
			t.Fatalf("a body of %d bytes is another one", len(s))
		}
	}
}

func TestPutOfAnyNodes(t *testing.T) {
	var f api.Flight
	for _, x := range odd() {
		for _, y := range odd() {
			f = put(t, f, x, y, "n")
			if l := f.List[len(f.List)-1]; l != fr(f.Next, x, y, "n") {
				t.Fatalf("%v; want from %d to %d", l, x, y)
			}
		}
	}
	wantFit(t, f, true)
}

func TestPutOnWaysThatAreCut(t *testing.T) {
	f := cutting(fl(4, fr(4, 1, 2, "a")), way(-1, 0), way(1, 2), way(1, 4), way(math.MaxInt, math.MinInt))
	for _, w := range f.Cut {
		wantNoPut(t, f, w.From, w.To, api.ErrCut)
	}
	for _, w := range f.Cut { // the other way round, and beside it
		put(t, f, w.To, w.From, "b")
		put(t, f, w.From, w.From, "b")
		put(t, f, w.To, w.To, "b")
		put(t, f, w.From, 3, "b")
		put(t, f, 3, w.To, "b")
	}
}

func TestPutWhenFull(t *testing.T) {
	f := put(t, many(65535), 3, 4, "last")
	if len(f.List) != 65536 || f.List[65535] != fr(65536, 3, 4, "last") {
		t.Fatalf("%d frames", len(f.List))
	}
	wantFit(t, f, true)
	for _, w := range []api.Way{way(3, 4), way(1, 2), way(2, 1), way(5, 5)} {
		wantNoPut(t, f, w.From, w.To, api.ErrFull)
	}
	f = take(t, f, fr(700, 1, 2, "m"))
	f = put(t, f, 1, 2, "again") // there is room again, and the Number is a new one
	if len(f.List) != 65536 || f.Next != 65537 || f.List[65535].Number != 65537 {
		t.Fatalf("%d frames, Next %d", len(f.List), f.Next)
	}
	wantNoPut(t, f, 1, 2, api.ErrFull)
}

func TestPutAtTheLastNumber(t *testing.T) {
	f := put(t, fl(top-2), 1, 2, "a")
	f = put(t, f, 1, 2, "b")
	want(t, f, fl(top, fr(top-1, 1, 2, "a"), fr(top, 1, 2, "b")))
	wantNoPut(t, f, 1, 2, api.ErrFull)
	wantNoPut(t, fl(top), 1, 1, api.ErrFull)
	wantNoPut(t, fl(top, fr(3, 1, 2, "")), 4, 5, api.ErrFull)
}

func TestPutOfWhichErrorComesFirst(t *testing.T) {
	for _, f := range []api.Flight{many(65536), fl(top), fl(top, fr(top, 1, 2, ""))} {
		f.Cut = []api.Way{way(1, 2)}
		wantNoPut(t, f, 1, 2, api.ErrCut)
		wantNoPut(t, f, 2, 1, api.ErrFull)
	}
}

// P6.3

func TestTake(t *testing.T) {
	f := mixed()
	l := f.List
	g := take(t, f, fr(2, 1, 2, "a")) // the first
	wantList(t, g, f, l[1:]...)
	g = take(t, f, fr(11, 3, 2, "f")) // the last
	wantList(t, g, f, l[:7]...)
	g = take(t, f, fr(6, 3, 3, "d")) // one between
	wantList(t, g, f, l[0], l[1], l[2], l[4], l[5], l[6], l[7])
	g = take(t, f, fr(10, 1, 2, "a")) // one that is like another one but for its Number
	wantList(t, g, f, l[0], l[1], l[2], l[3], l[4], l[5], l[7])
	g = take(t, f, fr(9, 2, 3, "e")) // one on a way that is cut
	wantList(t, g, f, l[0], l[1], l[2], l[3], l[4], l[6], l[7])
	want(t, f, mixed())
}

func TestTakeAll(t *testing.T) {
	f := mixed()
	for _, i := range []int{3, 0, 5, 2, 0, 1, 1, 0} { // Numbers may come out in any order
		x := f.List[i]
		f = take(t, f, x)
		wantNoFrame(t, f, x.Number)
	}
	wantList(t, f, mixed())
}

func TestTakeOfNone(t *testing.T) {
	for _, f := range []api.Flight{{}, fl(5), mixed(), fl(top, fr(top, 1, 2, "a"))} {
		for _, n := range []int64{0, -1, 1, 5, 8, 12, 13, 14, 1<<32 + 2, top - 1, math.MaxInt64, math.MinInt64} {
			wantNoFrame(t, f, n)
		}
	}
}

func TestTakeOfMany(t *testing.T) {
	f := many(65536)
	for _, n := range []int64{1, 2, 40000, 65535, 65536} {
		g := take(t, f, fr(n, 1, 2, "m"))
		if len(g.List) != 65535 || g.Next != 65536 {
			t.Fatalf("%d frames, Next %d", len(g.List), g.Next)
		}
		wantNoFrame(t, g, n)
	}
}

// P6.4

func TestDouble(t *testing.T) {
	for _, x := range mixed().List {
		f := mixed()
		g, n, e := Double(f, x.Number)
		if x.Number == 9 { // its way is cut
			wantNoDouble(t, f, 9, api.ErrCut)
			continue
		}
		if n != 13 || e != api.OK {
			t.Fatalf("Double(%d): %d, %v", x.Number, n, e)
		}
		wantList(t, g, cutting(fl(13), f.Cut...), append(f.List, fr(13, x.From, x.To, x.Body))...)
		want(t, f, mixed())
	}
}

func TestDoubleOfADouble(t *testing.T) {
	f := put(t, api.Flight{}, 3, 3, "a")
	for i := range int64(5) {
		g, n, e := Double(f, i+1)
		if n != i+2 || e != api.OK {
			t.Fatalf("Double(%d): %d, %v", i+1, n, e)
		}
		f = take(t, g, fr(i+1, 3, 3, "a")) // the double stays when the first one goes
	}
	want(t, f, fl(6, fr(6, 3, 3, "a")))
}

func TestDoubleOnAWayThatIsCut(t *testing.T) {
	f := cutting(fl(2, fr(1, 1, 2, "a"), fr(2, 2, 1, "b")), way(1, 2))
	wantNoDouble(t, f, 1, api.ErrCut)
	g, n, e := Double(f, 2)
	if n != 3 || e != api.OK {
		t.Fatalf("Double: %d, %v", n, e)
	}
	want(t, g, cutting(fl(3, fr(1, 1, 2, "a"), fr(2, 2, 1, "b"), fr(3, 2, 1, "b")), way(1, 2)))
}

func TestDoubleWhenFull(t *testing.T) {
	g, n, e := Double(many(65535), 65535)
	if n != 65536 || e != api.OK || len(g.List) != 65536 {
		t.Fatalf("Double: %d, %v, %d frames", n, e, len(g.List))
	}
	for _, f := range []api.Flight{many(65536), fl(top, fr(1, 1, 2, "m")), fl(top, fr(1, 1, 2, "m"), fr(top, 1, 2, "m"))} {
		wantNoDouble(t, f, 1, api.ErrFull)
		wantNoDouble(t, f, 0, api.ErrNone) // a frame that isn't there comes ahead of no room
		f.Cut = []api.Way{way(1, 2)}
		wantNoDouble(t, f, 1, api.ErrCut)
		wantNoDouble(t, f, -1, api.ErrNone)
	}
	g, n, e = Double(fl(top-1, fr(5, 1, 2, "m")), 5)
	if n != top || e != api.OK {
		t.Fatalf("Double: %d, %v", n, e)
	}
	want(t, g, fl(top, fr(5, 1, 2, "m"), fr(top, 1, 2, "m")))
}

// P6.9: nothing that goes in is changed, and nothing that comes out shares its memory.

func TestWhatGoesInStays(t *testing.T) {
	for name, act := range acts() {
		for _, f := range []api.Flight{roomy(mixed()), roomy(api.Flight{}), roomy(cutting(fl(top, mixed().List...), mixed().Cut...))} {
			before := whole(f)
			g, kept := act(f), act(f)
			if !Same(whole(f), before) {
				t.Errorf("%s: what went in was changed: %v; want %v", name, whole(f), before)
			}
			if !Same(g, kept) {
				t.Errorf("%s: two answers to the same", name)
			}
			spoil(g)
			if !Same(whole(f), before) {
				t.Errorf("%s: what came out shares memory with what went in", name)
			}
			now := alike(kept)
			spoil(f)
			if !Same(kept, now) {
				t.Errorf("%s: what went in is kept", name)
			}
		}
	}
}

func TestNumbersAreMemoryOfTheirOwn(t *testing.T) {
	f := mixed()
	a, b := On(f, 1, 2), On(f, 1, 2)
	for i := range a[:cap(a)] {
		a[:cap(a)][i] = -1
	}
	wantNumbers(t, b, 2, 4, 10)
	wantNumbers(t, On(f, 1, 2), 2, 4, 10)
	want(t, f, mixed())
}

func TestSetsStay(t *testing.T) {
	room := []int{3, 1, 2, 1, 9, 8}
	a, b := room[:4], []int{5, 4, 5}
	Isolate(mixed(), a, b)
	for i, x := range []int{3, 1, 2, 1, 9, 8} {
		if room[i] != x {
			t.Fatalf("a set was changed: %d", room)
		}
	}
	if b[0] != 5 || b[1] != 4 || b[2] != 5 {
		t.Fatalf("a set was changed: %d", b)
	}
}
