package flight

import (
	"math"
	"slices"
	"testing"

	"reef/api"
)

// top is the greatest Next that the chapter allows.
const top int64 = 1 << 62

// fr is a frame.
func fr(number int64, from, to int, body string) api.Frame {
	return api.Frame{Number: number, From: from, To: to, Body: body}
}

// way is a way.
func way(from, to int) api.Way { return api.Way{From: from, To: to} }

// fl is a flight with nothing cut.
func fl(next int64, list ...api.Frame) api.Flight { return api.Flight{Next: next, List: list} }

// cutting is a flight with ways cut.
func cutting(f api.Flight, cut ...api.Way) api.Flight {
	f.Cut = cut
	return f
}

// many is a flight of n frames, with Numbers 1 to n, from 1 to 2.
func many(n int) api.Flight {
	f := api.Flight{Next: int64(n)}
	for i := range n {
		f.List = append(f.List, fr(int64(i+1), 1, 2, "m"))
	}
	return f
}

// mixed is a flight with gaps in its Numbers, frames on a way that is cut, one from a node to itself, and several on some ways.
func mixed() api.Flight {
	return api.Flight{
		Next: 12,
		List: []api.Frame{
			fr(2, 1, 2, "a"), fr(3, 2, 1, "b"), fr(4, 1, 2, "c"), fr(6, 3, 3, "d"),
			fr(7, 1, 3, ""), fr(9, 2, 3, "e"), fr(10, 1, 2, "a"), fr(11, 3, 2, "f"),
		},
		Cut: []api.Way{way(-1, 4), way(2, 3), way(4, 1)},
	}
}

// want holds a flight against the one that is wanted, without asking the package.
func want(t *testing.T, got, f api.Flight) {
	t.Helper()
	if got.Next != f.Next || !slices.Equal(got.List, f.List) || !slices.Equal(got.Cut, f.Cut) {
		t.Fatalf("a flight %v; want %v", brief(got), brief(f))
	}
}

// brief is a flight that can be told in a line.
func brief(f api.Flight) api.Flight {
	f.List, f.Cut = f.List[:min(len(f.List), 20)], f.Cut[:min(len(f.Cut), 20)]
	return f
}

// wantList asks for these frames, and for Next and the ways of f.
func wantList(t *testing.T, got, f api.Flight, list ...api.Frame) {
	t.Helper()
	f.List = list
	want(t, got, f)
}

// roomy is a flight whose lists have spare room, in which something stands.
func roomy(f api.Flight) api.Flight {
	f.List = append(slices.Clone(f.List), fr(-7, 8, 9, "room"), fr(-8, 8, 9, "room"))[:len(f.List)]
	f.Cut = append(slices.Clone(f.Cut), way(-7, -7), way(-8, -8))[:len(f.Cut)]
	return f
}

// alike is the same flight in memory of its own.
func alike(f api.Flight) api.Flight {
	return api.Flight{Next: f.Next, List: slices.Clone(f.List), Cut: slices.Clone(f.Cut)}
}

// whole is a flight with all that stands in its lists' room, in memory of its own.
func whole(f api.Flight) api.Flight {
	f.List = slices.Clone(f.List[:cap(f.List)])
	f.Cut = slices.Clone(f.Cut[:cap(f.Cut)])
	return f
}

// spoil writes over all of a flight's memory.
func spoil(f api.Flight) {
	for i := range f.List[:cap(f.List)] {
		f.List[:cap(f.List)][i] = fr(-99, -99, -99, "spoilt")
	}
	for i := range f.Cut[:cap(f.Cut)] {
		f.Cut[:cap(f.Cut)][i] = way(-99, -98)
	}
}

// acts is every call that answers a flight, with arguments that do something to mixed, and such that are refused.
func acts() map[string]func(api.Flight) api.Flight {
	put := func(from, to int) func(api.Flight) api.Flight {
		return func(f api.Flight) api.Flight { g, _, _ := Put(f, from, to, "x"); return g }
	}
	take := func(n int64) func(api.Flight) api.Flight {
		return func(f api.Flight) api.Flight { g, _, _ := Take(f, n); return g }
	}
	double := func(n int64) func(api.Flight) api.Flight {
		return func(f api.Flight) api.Flight { g, _, _ := Double(f, n); return g }
	}
	cut := func(from, to int) func(api.Flight) api.Flight {
		return func(f api.Flight) api.Flight { g, _ := Cut(f, from, to); return g }
	}
	join := func(from, to int) func(api.Flight) api.Flight {
		return func(f api.Flight) api.Flight { g, _ := Join(f, from, to); return g }
	}
	lose := func(to int) func(api.Flight) api.Flight {
		return func(f api.Flight) api.Flight { g, _ := Lose(f, to); return g }
	}
	isolate := func(a, b []int) func(api.Flight) api.Flight {
		return func(f api.Flight) api.Flight { g, _ := Isolate(f, a, b); return g }
	}
	return map[string]func(api.Flight) api.Flight{
		"Put": put(1, 2), "Put to itself": put(4, 4), "Put refused": put(2, 3),
		"Take first": take(2), "Take middle": take(6), "Take last": take(11), "Take refused": take(5),
		"Double": double(6), "Double refused": double(8), "Double on a cut way": double(9),
		"Cut": cut(1, 2), "Cut behind all": cut(9, 8), "Cut ahead of all": cut(-5, 1), "Cut again": cut(2, 3), "Cut of itself": cut(3, 3),
		"Join": join(2, 3), "Join of the first": join(-1, 4), "Join of the last": join(4, 1), "Join refused": join(1, 2),
		"Lose": lose(2), "Lose of the first": lose(1), "Lose of none": lose(9),
		"Isolate": isolate([]int{1, 5, 1}, []int{3, 2, 1}), "Isolate of none": isolate(nil, []int{1}),
	}
}

// odd is node numbers of all kinds.
func odd() []int {
	return []int{0, 1, -1, 7, math.MaxInt, math.MinInt, math.MaxInt32, math.MinInt32, 1 << 32, -1 << 32}
}
