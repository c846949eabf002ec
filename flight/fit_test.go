package flight

import (
	"math"
	"testing"

	"reef/api"
)

func wantFit(t *testing.T, f api.Flight, is bool) {
	t.Helper()
	if Fit(f) != is {
		t.Errorf("Fit of %d frames, %v: %v", len(f.List), brief(f), !is)
	}
}

// P6.1

func TestFitNext(t *testing.T) {
	for _, n := range []int64{0, 1, 2, 1 << 31, 1 << 32, top - 1, top} {
		wantFit(t, fl(n), true)
	}
	for _, n := range []int64{-1, -2, -top, math.MinInt64, top + 1, top + 2, math.MaxInt64} {
		wantFit(t, fl(n), false)
	}
	wantFit(t, fl(top, fr(1, 1, 2, ""), fr(top, 1, 2, "")), true)
	wantFit(t, fl(top+1, fr(top+1, 1, 2, "")), false)
}

func TestFitOfNothing(t *testing.T) {
	wantFit(t, api.Flight{}, true)
	wantFit(t, api.Flight{List: []api.Frame{}, Cut: []api.Way{}}, true)
}

func TestFitCountOfFrames(t *testing.T) {
	for _, n := range []int{1, 2, 65534, 65535, 65536} {
		wantFit(t, many(n), true)
	}
	for _, n := range []int{65537, 65538, 70000} {
		wantFit(t, many(n), false)
	}
}

func TestFitNumbers(t *testing.T) {
	row := func(next int64, numbers ...int64) api.Flight {
		f := api.Flight{Next: next}
		for _, n := range numbers {
			f.List = append(f.List, fr(n, 1, 2, "a"))
		}
		return f
	}
	for _, f := range []api.Flight{
		row(1, 1), row(2, 1), row(2, 2), row(3, 1, 2, 3), row(9, 1, 5, 9), row(9, 4, 5), row(top, top-1, top), row(1<<40, 1<<33, 1<<34),
	} {
		wantFit(t, f, true)
	}
	for _, f := range []api.Flight{
		row(0, 0), row(1, 0), row(1, 0, 1), row(1, -1), row(5, -1, 2), row(5, math.MinInt64, 2), // below 1
		row(0, 1), row(1, 2), row(9, 1, 10), row(9, 10), row(3, 1, 2, 4), row(1, math.MaxInt64), // above Next
		row(9, 1, 1), row(9, 3, 3), row(9, 1, 2, 2), row(9, 1, 1, 2), // stand still
		row(9, 2, 1), row(9, 1, 3, 2), row(9, 3, 1, 2), row(9, 1, 9, 8, 9), row(1<<40, 1<<33, 1), // fall
	} {
		wantFit(t, f, false)
	}
}

func TestFitNumbersOfManyFrames(t *testing.T) {
	for _, i := range []int{0, 1, 1000, 65534, 65535} {
		f := many(65536)
		f.List[i].Number = 0
		wantFit(t, f, false)
		f.List[i].Number = 65537
		wantFit(t, f, false)
		f.List[i].Number = int64(i + 1)
		wantFit(t, f, true)
	}
}

func TestFitNodesMayBeAny(t *testing.T) {
	for _, x := range odd() {
		for _, y := range odd() {
			wantFit(t, fl(1, fr(1, x, y, "")), true) // also from a node to itself
			wantFit(t, cutting(fl(0), way(x, y)), x != y)
		}
	}
}

func TestFitWays(t *testing.T) {
	for _, l := range [][]api.Way{
		{way(1, 2)}, {way(2, 1)}, {way(1, 2), way(1, 3)}, {way(1, 2), way(2, 1)}, {way(1, 9), way(2, 0)}, {way(-3, 7), way(-3, 8), way(0, -1), way(4, 5)},
		{way(math.MinInt, math.MaxInt), way(math.MaxInt, math.MinInt)}, {way(0, math.MinInt), way(0, math.MaxInt)},
	} {
		wantFit(t, cutting(fl(0), l...), true)
		wantFit(t, cutting(mixed(), l...), true) // frames may be on ways that are cut
	}
	for _, l := range [][]api.Way{
		{way(1, 1)}, {way(0, 0)}, {way(-1, -1)}, {way(1, 2), way(2, 2)}, {way(1, 1), way(1, 2)}, {way(1, 2), way(2, 2), way(3, 1)}, // to itself
		{way(1, 2), way(1, 2)}, {way(1, 2), way(1, 3), way(1, 3)}, {way(1, 2), way(1, 2), way(1, 3)}, // twice
		{way(2, 1), way(1, 2)}, {way(1, 3), way(1, 2)}, {way(2, 0), way(1, 9)}, {way(1, 2), way(3, 1), way(2, 1)}, {way(1, 2), way(2, 1), way(1, 2)}, // fall
		{way(1, 0), way(-1, 0)}, {way(0, 1), way(0, -1)}, {way(math.MaxInt, 0), way(math.MinInt, 0)}, {way(0, math.MaxInt), way(0, math.MinInt)},
	} {
		wantFit(t, cutting(fl(0), l...), false)
		wantFit(t, cutting(mixed(), l...), false)
	}
}

func TestFitSpareRoomPlaysNoPart(t *testing.T) {
	wantFit(t, roomy(mixed()), true)
	f := many(65537)
	f.List = f.List[:65536]
	wantFit(t, f, true)
}

func TestSame(t *testing.T) {
	for _, f := range []api.Flight{{}, mixed(), many(300), cutting(fl(0), way(1, 2)), fl(3, fr(2, 1, 1, ""))} {
		if !Same(f, f) || !Same(f, roomy(f)) || !Same(roomy(f), alike(f)) {
			t.Errorf("Same of %v with itself: false", brief(f))
		}
	}
	empty := api.Flight{List: []api.Frame{}, Cut: []api.Way{}}
	if !Same(empty, api.Flight{}) || !Same(api.Flight{}, empty) {
		t.Error("nil lists and empty ones are the same")
	}
}

func TestSameInAllButOneField(t *testing.T) {
	for name, change := range map[string]func(*api.Flight){
		"Next":          func(f *api.Flight) { f.Next++ },
		"Number, first": func(f *api.Flight) { f.List[0].Number-- },
		"Number, last":  func(f *api.Flight) { f.List[7].Number++ },
		"From":          func(f *api.Flight) { f.List[3].From = 2 },
		"To":            func(f *api.Flight) { f.List[3].To = 2 },
		"Body":          func(f *api.Flight) { f.List[3].Body = "D" },
		"no body":       func(f *api.Flight) { f.List[3].Body = "" },
		"one less":      func(f *api.Flight) { f.List = f.List[:7] },
		"first less":    func(f *api.Flight) { f.List = f.List[1:] },
		"one more":      func(f *api.Flight) { f.List = append(f.List, fr(12, 1, 2, "g")) },
		"none":          func(f *api.Flight) { f.List = nil },
		"order":         func(f *api.Flight) { f.List[1], f.List[2] = f.List[2], f.List[1] },
		"way's From":    func(f *api.Flight) { f.Cut[0].From = -2 },
		"way's To":      func(f *api.Flight) { f.Cut[2].To = 2 },
		"way less":      func(f *api.Flight) { f.Cut = f.Cut[:2] },
		"way more":      func(f *api.Flight) { f.Cut = append(f.Cut, way(9, 8)) },
		"no ways":       func(f *api.Flight) { f.Cut = nil },
		"ways' order":   func(f *api.Flight) { f.Cut[0], f.Cut[1] = f.Cut[1], f.Cut[0] },
	} {
		f, g := mixed(), mixed()
		change(&g)
		if Same(f, g) || Same(g, f) {
			t.Errorf("%s: the same", name)
		}
		if !Same(g, alike(g)) {
			t.Errorf("%s: not the same as itself", name)
		}
	}
}

func TestSameOfUnfitOnes(t *testing.T) {
	f := cutting(fl(-3, fr(5, 1, 2, "a"), fr(5, 1, 2, "a")), way(3, 3), way(1, 2), way(3, 3))
	if !Same(f, alike(f)) {
		t.Error("unfit flights that are the same: not")
	}
	g := alike(f)
	g.Cut[2].To = 4
	if Same(f, g) || Same(f, many(65537)) || !Same(many(65537), many(65537)) {
		t.Error("unfit flights")
	}
}
