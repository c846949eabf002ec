package accept

import (
	"math"
	"testing"

	"reef/api"
)

// P15.2

func TestPrepare(t *testing.T) {
	for _, c := range []struct {
		promised, b api.Ballot
		ok          bool
	}{
		{bal(0, 0), bal(1, 0), true}, {bal(0, 0), bal(1, 4), true}, {bal(0, 0), bal(top, 4), true}, {bal(0, 0), bal(top, 0), true},
		{bal(5, 3), bal(5, 3), true}, // an equal one
		{bal(5, 3), bal(5, 4), true}, {bal(5, 3), bal(5, 2), false}, {bal(5, 3), bal(5, 0), false},
		{bal(5, 3), bal(6, 0), true}, {bal(5, 3), bal(6, 3), true}, {bal(5, 3), bal(4, 4), false}, {bal(5, 3), bal(1, 0), false}, {bal(5, 3), bal(top, 0), true},
		{bal(top, 3), bal(top, 3), true}, {bal(top, 3), bal(top, 4), true}, {bal(top, 3), bal(top, 2), false}, {bal(top, 3), bal(top-1, 4), false},
	} {
		for _, a := range []api.Acceptor{{Promised: c.promised}, {Promised: c.promised, Commits: row(9)}} {
			want := a
			if c.ok {
				want.Promised = c.b
			}
			prepare(t, a, c.b, want, c.ok)
		}
	}
}

// All but what is promised stays.
func TestPrepareKeeps(t *testing.T) {
	for _, a := range fits() {
		b := bal(top, mons-1)
		prepare(t, a, b, promising(a, b), true)
		if a.Promised.Round > 0 {
			prepare(t, a, a.Promised, a, true)
		}
		for _, b := range improper() {
			prepare(t, a, b, a, false)
		}
	}
	prepare(t, mixed(), bal(5, 2), mixed(), false)
	prepare(t, full(), bal(5, 2), full(), false)
}

// P15.3

func TestPromise(t *testing.T) {
	wantPromise(t, api.Acceptor{}, 0, 0, api.Promise{})
	wantPromise(t, api.Acceptor{}, 3, 0, api.Promise{Mon: 3})
	a := mixed()
	p := api.Promise{Mon: 2, Count: 3, Has: true, At: bal(3, 1), Value: "v"}
	wantPromise(t, a, 2, 0, p, "a", "b", "c")
	wantPromise(t, a, 2, 1, p, "b", "c")
	wantPromise(t, a, 2, 2, p, "c")
	wantPromise(t, a, 2, 3, p)
	wantPromise(t, a, 2, 4, p)
	wantPromise(t, a, 2, -1, p)
	wantPromise(t, promising(a, bal(9, 0)), 2, 2, p, "c") // what is promised is not told
	wantPromise(t, knowing(a, "x"), 1, 0, api.Promise{Mon: 1, Count: 1}, "x")
	p.Count = end
	wantPromise(t, full(), 2, 0, p, row(end)...)
	wantPromise(t, full(), 2, end-1, p, "4095")
	wantPromise(t, full(), 2, end, p)
}

// Any number of a monitor's, any first.
func TestPromiseOfOddNumbers(t *testing.T) {
	for _, mon := range odd() {
		for _, first := range odd() {
			p := api.Promise{Mon: int(mon), Count: 3, Has: true, At: bal(3, 1), Value: "v"}
			var l []string
			if first >= 0 && first < 3 {
				l = mixed().Commits[first:]
			}
			wantPromise(t, mixed(), int(mon), first, p, l...)
		}
	}
}

// P15.6: Values

func TestValues(t *testing.T) {
	a := mixed()
	wantSome(t, a, 0, 0)
	wantSome(t, a, 0, 1, "a")
	wantSome(t, a, 0, 2, "a", "b")
	wantSome(t, a, 0, 3, "a", "b", "c")
	wantSome(t, a, 0, 4, "a", "b", "c")
	wantSome(t, a, 0, math.MaxInt, "a", "b", "c")
	wantSome(t, a, 1, 1, "b")
	wantSome(t, a, 1, 9, "b", "c")
	wantSome(t, a, 2, 1, "c")
	wantSome(t, a, 2, math.MaxInt, "c")
	wantSome(t, a, 3, 1)
	wantSome(t, a, 0, -1)
	wantSome(t, a, -1, 1)
	wantSome(t, a, -1, -1)
	wantSome(t, a, math.MinInt64, math.MaxInt)
	wantSome(t, a, math.MaxInt64, math.MaxInt)
	wantSome(t, api.Acceptor{}, 0, 5)
	wantSome(t, full(), 0, end+1, row(end)...)
	wantSome(t, full(), end-2, 16, "4094", "4095")
	wantSome(t, full(), 17, 16, row(33)[17:]...)
}

func TestValuesOfOddNumbers(t *testing.T) {
	l := row(4)
	for _, first := range odd() {
		for _, most := range odd() {
			var want []string
			for i := first; i >= 0 && i < 4 && i-first < most; i++ {
				want = append(want, l[i])
			}
			wantSome(t, api.Acceptor{Commits: l}, first, int(most), want...)
		}
	}
}
