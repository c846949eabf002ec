package accept

import (
	"math"
	"slices"
	"testing"

	"reef/api"
)

// P15.5

func TestLearn(t *testing.T) {
	a := mixed()
	learn(t, a, 3, []string{"d"}, knowing(a, "a", "b", "c", "d"), 1)
	learn(t, a, 3, []string{"d", "e"}, knowing(a, "a", "b", "c", "d", "e"), 2)
	learn(t, a, 3, []string{"v"}, knowing(a, "a", "b", "c", "v"), 1) // what is accepted is committed
	learn(t, a, 3, nil, a, 0)
	learn(t, api.Acceptor{}, 0, []string{"a"}, api.Acceptor{Commits: []string{"a"}}, 1)
	learn(t, api.Acceptor{}, 0, nil, api.Acceptor{}, 0)
	learn(t, api.Acceptor{}, 0, row(end), api.Acceptor{Commits: row(end)}, end)
}

// Those that are committed already are passed over, whatever they are.
func TestLearnWhatOverlaps(t *testing.T) {
	a := mixed()
	learn(t, a, 0, []string{"a", "b", "c", "d"}, knowing(a, "a", "b", "c", "d"), 1)
	learn(t, a, 0, []string{"x", "y", "z", "d"}, knowing(a, "a", "b", "c", "d"), 1)
	learn(t, a, 1, []string{"", text(257), "d", "e"}, knowing(a, "a", "b", "c", "d", "e"), 2)
	learn(t, a, 2, []string{"c", "d"}, knowing(a, "a", "b", "c", "d"), 1)
	learn(t, a, 0, []string{"a", "b", "c"}, a, 0)
	learn(t, a, 0, []string{"a"}, a, 0)
	learn(t, a, 2, []string{"x"}, a, 0)
	learn(t, a, 2, nil, a, 0)
}

func TestLearnBehindAGap(t *testing.T) {
	l := []string{"a", "b", "c", "d", "e"}
	for _, a := range []api.Acceptor{mixed(), knowing(mixed(), "a", "b", "c")} {
		for _, first := range []int64{math.MinInt64, -1 << 32, -4, -3, -1, 4, 5, 1 << 32, 1<<32 + 3, math.MaxInt64 - 1, math.MaxInt64} {
			learn(t, a, first, l, a, 0)
		}
	}
	learn(t, api.Acceptor{}, 1, l, api.Acceptor{}, 0)
	learn(t, api.Acceptor{}, -1, l, api.Acceptor{}, 0)
}

// All behind one that is no value is passed over.
func TestLearnWhatIsNoValue(t *testing.T) {
	a := mixed()
	for _, no := range []string{"", text(257), text(5000)} {
		learn(t, a, 3, []string{no}, a, 0)
		learn(t, a, 3, []string{no, "d"}, a, 0)
		learn(t, a, 2, []string{"c", no, "d"}, a, 0)
		learn(t, a, 3, []string{"d", no, "e"}, knowing(a, "a", "b", "c", "d"), 1)
		learn(t, a, 2, []string{no, "d", "e", no, "f", no}, knowing(a, "a", "b", "c", "d", "e"), 2)
	}
	learn(t, a, 3, []string{text(1), text(256)}, knowing(a, "a", "b", "c", text(1), text(256)), 2)
	learn(t, a, 3, []string{"\x00", "\xff"}, knowing(a, "a", "b", "c", "\x00", "\xff"), 2)
}

func TestLearnAsManyAsMayBe(t *testing.T) {
	a := mixed()
	more := slices.Concat(a.Commits, row(end-3))
	learn(t, a, 3, row(end+9), knowing(a, more...), end-3)
	learn(t, a, 3, row(end-3), knowing(a, more...), end-3)
	learn(t, a, 3, row(end-4), knowing(a, more[:end-1]...), end-4)
	learn(t, a, 0, row(2*end), knowing(a, slices.Concat(a.Commits, row(end)[3:])...), end-3)
	learn(t, full(), end, []string{"x"}, full(), 0)
	learn(t, full(), end-1, []string{"x", "y"}, full(), 0)
	learn(t, full(), 0, row(end+1), full(), 0)
	learn(t, full(), end+1, []string{"x"}, full(), 0)
	almost := knowing(full(), row(end-1)...)
	learn(t, almost, end-1, []string{"x", "y"}, knowing(almost, append(row(end-1), "x")...), 1)
	learn(t, almost, end-2, []string{"y", "", "x"}, almost, 0)
}

// What is promised stays: nobody who was refused ahead of it is heard behind it.
func TestLearnKeepsThePromise(t *testing.T) {
	for _, a := range fits() {
		n := int64(len(a.Commits))
		if n == end {
			continue
		}
		b := learn(t, a, n, []string{"w"}, knowing(a, append(slices.Clone(a.Commits), "w")...), 1)
		wantPromise(t, b, 1, n, api.Promise{Mon: 1, Count: n + 1}, "w")
	}
}
