package flight

import (
	"iter"
	"slices"

	"reef/api"
)

// numbersRise tells whether the frames' Numbers do, from 1 on, and none is above next.
func numbersRise(list []api.Frame, next int64) bool {
	var last int64
	for _, x := range list {
		if x.Number <= last || x.Number > next {
			return false
		}
		last = x.Number
	}
	return true
}

// those ranges over the frames that are meant, and their places.
func those(list []api.Frame, meant func(api.Frame) bool) iter.Seq2[int, api.Frame] {
	return func(yield func(int, api.Frame) bool) {
		for i, x := range list {
			if meant(x) && !yield(i, x) {
				return
			}
		}
	}
}

// first is the first frame that is meant, its place, and whether there is one.
func first(list []api.Frame, meant func(api.Frame) bool) (int, api.Frame, bool) {
	for i, x := range those(list, meant) {
		return i, x, true
	}
	return 0, api.Frame{}, false
}

// without is a flight without the frames that are meant, and how many those were.
func without(f api.Flight, meant func(api.Frame) bool) (api.Flight, int) {
	g := copied(f)
	g.List = slices.DeleteFunc(g.List, meant)
	return g, len(f.List) - len(g.List)
}

// numbered means the frame of a Number.
func numbered(n int64) func(api.Frame) bool {
	return func(x api.Frame) bool { return x.Number == n }
}

// bound means the frames to a node.
func bound(to int) func(api.Frame) bool {
	return func(x api.Frame) bool { return x.To == to }
}

// along means the frames on a way.
func along(w api.Way) func(api.Frame) bool {
	return func(x api.Frame) bool { return wayOf(x) == w }
}

// wayOf is the way that a frame is on.
func wayOf(x api.Frame) api.Way { return api.Way{From: x.From, To: x.To} }
