package accept

import (
	"fmt"
	"math"
	"slices"
	"testing"

	"reef/api"
)

// P15.1

func TestLater(t *testing.T) {
	rising := []api.Ballot{
		bal(math.MinInt64, math.MaxInt), bal(-1, math.MinInt), bal(-1, 7), bal(0, -1), {}, bal(0, 4), bal(1, -1), bal(1, 0), bal(1, 1), bal(1, mons-1),
		bal(1, mons), bal(2, -5), bal(2, 0), bal(2, 4), bal(3, 0), bal(top, 0), bal(top, 4), bal(top+1, 0), bal(1<<32, 0), bal(math.MaxInt64, math.MinInt), bal(math.MaxInt64, math.MaxInt),
	}
	for i, a := range rising {
		for j, b := range rising {
			if Later(a, b) != (i > j) {
				t.Errorf("Later(%v, %v): %v", a, b, i <= j)
			}
		}
	}
}

func TestFit(t *testing.T) {
	for _, a := range fits() {
		wantFit(t, a, true)
	}
	wantFit(t, api.Acceptor{Commits: []string{}}, true)
}

func TestFitPromised(t *testing.T) {
	wantFit(t, api.Acceptor{Promised: bal(0, 0)}, true)
	for _, round := range []int64{1, 2, top - 1, top} {
		for mon := range mons {
			wantFit(t, api.Acceptor{Promised: bal(round, mon)}, true)
		}
	}
	for _, b := range improper() {
		wantFit(t, api.Acceptor{Promised: b}, b == api.Ballot{})
		wantFit(t, promising(mixed(), b), false) // At is later than the zero ballot
	}
}

func TestFitAccepted(t *testing.T) {
	at := func(promised, at api.Ballot) api.Acceptor {
		return api.Acceptor{Promised: promised, Has: true, At: at, Value: "v"}
	}
	for _, b := range improper() {
		wantFit(t, at(bal(top, mons-1), b), false)
		wantFit(t, at(b, bal(1, 0)), false)
		wantFit(t, at(b, b), false)
	}
	for _, c := range []struct {
		promised, at api.Ballot
		is           bool
	}{
		{bal(3, 2), bal(3, 2), true}, {bal(3, 2), bal(3, 1), true}, {bal(3, 2), bal(3, 0), true}, {bal(3, 2), bal(2, 4), true}, {bal(3, 2), bal(1, 0), true},
		{bal(3, 2), bal(3, 3), false}, {bal(3, 2), bal(4, 0), false}, {bal(3, 2), bal(top, 2), false}, {bal(top, 0), bal(top, 1), false}, {bal(0, 0), bal(1, 0), false},
	} {
		wantFit(t, at(c.promised, c.at), c.is)
	}
}

func TestFitValue(t *testing.T) {
	for n, is := range map[int]bool{0: false, 1: true, 2: true, 255: true, 256: true, 257: false, 5000: false} {
		wantFit(t, with(mixed(), func(a *api.Acceptor) { a.Value = text(n) }), is)
		wantFit(t, with(mixed(), func(a *api.Acceptor) { a.Commits[0] = text(n) }), is)
		wantFit(t, with(mixed(), func(a *api.Acceptor) { a.Commits[2] = text(n) }), is)
	}
	wantFit(t, with(mixed(), func(a *api.Acceptor) { a.Value, a.Commits[1] = "\x00", "\xff\xfe" }), true)
}

// What has nothing accepted has no ballot of it, and no value.
func TestFitOfNothingAccepted(t *testing.T) {
	for _, c := range []struct {
		at    api.Ballot
		value string
		is    bool
	}{{bal(0, 0), "", true}, {bal(0, 0), "v", false}, {bal(1, 0), "", false}, {bal(0, 1), "", false}, {bal(-1, 0), "", false}, {bal(1, 1), "v", false}} {
		wantFit(t, with(mixed(), func(a *api.Acceptor) { a.Has, a.At, a.Value = false, c.at, c.value }), c.is)
	}
}

func TestFitCommits(t *testing.T) {
	for n, is := range map[int]bool{0: true, 1: true, end - 1: true, end: true, end + 1: false, 3 * end: false} {
		a := api.Acceptor{Commits: row(n)}
		wantFit(t, a, is)
		if n > 0 {
			a.Commits[n-1] = ""
			wantFit(t, a, false)
		}
	}
	roomy := api.Acceptor{Commits: append(row(end), "", text(300))[:end]}
	wantFit(t, roomy, true) // the spare room plays no part
}

// P15.6: Same

func TestSame(t *testing.T) {
	l := append(fits(), api.Acceptor{Promised: bal(-1, 9), At: bal(7, -7), Value: text(999), Commits: []string{"", text(300)}})
	for i := range l {
		for j := range l {
			if b := with(l[j], func(*api.Acceptor) {}); Same(l[i], b) != (i == j) {
				t.Errorf("Same(%s, %s): %v", brief(l[i]), brief(b), i != j)
			}
		}
	}
	for i, change := range []func(a *api.Acceptor){
		func(a *api.Acceptor) { a.Promised.Round++ },
		func(a *api.Acceptor) { a.Promised.Mon-- },
		func(a *api.Acceptor) { a.Has = !a.Has },
		func(a *api.Acceptor) { a.At.Round-- },
		func(a *api.Acceptor) { a.At.Mon++ },
		func(a *api.Acceptor) { a.Value += "x" },
		func(a *api.Acceptor) { a.Value = "w" },
		func(a *api.Acceptor) { a.Commits = a.Commits[:2] },
		func(a *api.Acceptor) { a.Commits = append(a.Commits, "") },
		func(a *api.Acceptor) { a.Commits[2] = "x" },
		func(a *api.Acceptor) { slices.Reverse(a.Commits) },
		func(a *api.Acceptor) { a.Commits = nil },
	} {
		a, b := mixed(), with(mixed(), change)
		if Same(a, b) || Same(b, a) {
			t.Error("not the same by change", i)
		}
	}
}

func TestSameOfNoValues(t *testing.T) {
	a, b := api.Acceptor{Promised: bal(1, 0)}, api.Acceptor{Promised: bal(1, 0), Commits: []string{}}
	if !Same(a, b) || !Same(b, a) {
		t.Error("a list that is nil and one that is empty are the same")
	}
	a.Commits, b.Commits = append(row(3), "x")[:3], append(row(3), "y", "z")[:3]
	if !Same(a, b) {
		t.Error("the spare room plays a part: " + fmt.Sprint(a, b))
	}
}
