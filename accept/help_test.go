package accept

import (
	"fmt"
	"math"
	"math/rand"
	"slices"
	"strings"
	"testing"

	"reef/api"
)

// The chapter's bounds.
const (
	top  = 1 << 30 // the greatest Round
	mons = 5
	end  = 4096 // values that are committed at most
)

func bal(round int64, mon int) api.Ballot { return api.Ballot{Round: round, Mon: mon} }

// text is one of n bytes.
func text(n int) string { return strings.Repeat("v", n) }

// row is n values, the i-th being "i".
func row(n int) []string {
	var l []string
	for i := range n {
		l = append(l, fmt.Sprint(i))
	}
	return l
}

// mixed is an acceptor with something of all.
func mixed() api.Acceptor {
	return api.Acceptor{Promised: bal(5, 3), Has: true, At: bal(3, 1), Value: "v", Commits: []string{"a", "b", "c"}}
}

// full is an acceptor that has as many values committed as may be.
func full() api.Acceptor {
	a := mixed()
	a.Commits = row(end)
	return a
}

// fits is acceptors that are fit.
func fits() []api.Acceptor {
	return []api.Acceptor{
		{}, mixed(), full(),
		{Commits: []string{"a"}},
		{Promised: bal(1, 0)},
		{Promised: bal(top, mons-1), Has: true, At: bal(top, mons-1), Value: text(256)},
		{Promised: bal(2, 0), Has: true, At: bal(1, 4), Value: "\x00", Commits: []string{"\xff", text(256), "a", "a"}},
	}
}

// with is an acceptor that was changed by hand.
func with(a api.Acceptor, change func(a *api.Acceptor)) api.Acceptor {
	a.Commits = slices.Clone(a.Commits)
	change(&a)
	return a
}

// promising is an acceptor that has promised something else.
func promising(a api.Acceptor, b api.Ballot) api.Acceptor {
	return with(a, func(a *api.Acceptor) { a.Promised = b })
}

// knowing is an acceptor that has nothing accepted, and other values committed.
func knowing(a api.Acceptor, commits ...string) api.Acceptor {
	return api.Acceptor{Promised: a.Promised, Commits: commits}
}

// improper is ballots that nobody can ask by.
func improper() []api.Ballot {
	var l []api.Ballot
	for _, round := range []int64{math.MinInt64, -1, 0, top + 1, 1 << 31, 1<<32 + 5, math.MaxInt64} {
		for mon := -1; mon <= mons; mon++ {
			l = append(l, bal(round, mon))
		}
	}
	for _, mon := range []int{math.MinInt, -1 << 32, -1, mons, mons + 1, 1<<32 + 1, math.MaxInt} {
		l = append(l, bal(1, mon), bal(7, mon), bal(top, mon), bal(0, mon))
	}
	return l
}

// odd is numbers near a bound of any kind.
func odd() []int64 {
	return []int64{math.MinInt64, math.MinInt64 + 1, -1 << 32, -2, -1, 0, 1, 2, 3, 4, 5, end - 1, end, end + 1, end + 2, 1<<31 - 1, 1 << 31, 1 << 32, 1<<32 + 1, math.MaxInt64 - 1, math.MaxInt64}
}

// spare is a list with spare room, in which something stands.
func spare(l []string) []string {
	return append(slices.Clone(l), "room", "room", "room")[:len(l)]
}

// fill lays something over a list and its spare room.
func fill(l []string) {
	l = l[:cap(l)]
	for i := range l {
		l[i] = "spoilt"
	}
}

// alike holds two acceptors against each other, without asking the package.
func alike(a, b api.Acceptor) bool {
	return a.Promised == b.Promised && a.Has == b.Has && a.At == b.At && a.Value == b.Value && slices.Equal(a.Commits, b.Commits)
}

// brief is an acceptor that can be told in a line.
func brief(a api.Acceptor) string {
	return fmt.Sprintf("%v %v %v %.9q, %d committed: %.9q..", a.Promised, a.Has, a.At, a.Value, len(a.Commits), a.Commits[:min(len(a.Commits), 9)])
}

// wantFit asks whether an acceptor is fit.
func wantFit(t *testing.T, a api.Acceptor, is bool) {
	t.Helper()
	if Fit(a) != is {
		t.Fatalf("Fit(%s): %v; want %v", brief(a), !is, is)
	}
}

// call does something to an acceptor with spare room, asks for the one that is wanted, and that what went in stays, even when what came out is written over.
func call(t *testing.T, what string, a, want api.Acceptor, do func(a api.Acceptor) api.Acceptor) api.Acceptor {
	t.Helper()
	in := a
	in.Commits = spare(a.Commits)
	room := slices.Clone(in.Commits[:cap(in.Commits)])
	got := do(in)
	if !alike(got, want) {
		t.Fatalf("%s of %s: %s; want %s", what, brief(a), brief(got), brief(want))
	}
	out := with(got, func(*api.Acceptor) {})
	fill(got.Commits)
	_ = append(got.Commits, "more")
	if !slices.Equal(in.Commits[:cap(in.Commits)], room) {
		t.Fatalf("%s of %s has changed it", what, brief(a))
	}
	return out
}

func prepare(t *testing.T, a api.Acceptor, b api.Ballot, want api.Acceptor, ok bool) api.Acceptor {
	t.Helper()
	what := fmt.Sprintf("Prepare(%v)", b)
	return call(t, what, a, want, func(a api.Acceptor) api.Acceptor {
		got, is := Prepare(a, b)
		if is != ok {
			t.Fatalf("%s of %s: %v; want %v", what, brief(a), is, ok)
		}
		return got
	})
}

func accepting(t *testing.T, a api.Acceptor, b api.Ballot, version int64, value string, want api.Acceptor, ac int) api.Acceptor {
	t.Helper()
	what := fmt.Sprintf("Accept(%v, %d, %.9q)", b, version, value)
	return call(t, what, a, want, func(a api.Acceptor) api.Acceptor {
		got, is := Accept(a, b, version, value)
		if is != ac {
			t.Fatalf("%s of %s: %d; want %d", what, brief(a), is, ac)
		}
		return got
	})
}

func learn(t *testing.T, a api.Acceptor, first int64, values []string, want api.Acceptor, n int) api.Acceptor {
	t.Helper()
	what := fmt.Sprintf("Learn(%d, %d: %.9q..)", first, len(values), values[:min(len(values), 9)])
	in := spare(values)
	room := slices.Clone(in[:cap(in)])
	got := call(t, what, a, want, func(a api.Acceptor) api.Acceptor {
		got, is := Learn(a, first, in)
		if is != n {
			t.Fatalf("%s of %s: %d; want %d", what, brief(a), is, n)
		}
		return got
	})
	if !slices.Equal(in[:cap(in)], room) {
		t.Fatalf("%s has changed the values", what)
	}
	return got
}

// wantValues asks for some values in memory of their own.
func wantValues(t *testing.T, what string, a api.Acceptor, want []string, ask func(a api.Acceptor) []string) {
	t.Helper()
	in := a
	in.Commits = spare(a.Commits)
	room := slices.Clone(in.Commits[:cap(in.Commits)])
	got := ask(in)
	if !slices.Equal(got, want) {
		t.Fatalf("%s of %s: %d: %.9q..; want %d: %.9q..", what, brief(a), len(got), got[:min(len(got), 9)], len(want), want[:min(len(want), 9)])
	}
	fill(got)
	_ = append(got, "more")
	if !slices.Equal(in.Commits[:cap(in.Commits)], room) {
		t.Fatalf("%s of %s has changed it", what, brief(a))
	}
}

func wantPromise(t *testing.T, a api.Acceptor, mon int, first int64, want api.Promise, values ...string) {
	t.Helper()
	what := fmt.Sprintf("Promise(%d, %d)", mon, first)
	wantValues(t, what, a, values, func(a api.Acceptor) []string {
		p, l := Promise(a, mon, first)
		if p != want {
			t.Fatalf("%s of %s: %+v; want %+v", what, brief(a), p, want)
		}
		return l
	})
}

func wantSome(t *testing.T, a api.Acceptor, first int64, most int, values ...string) {
	t.Helper()
	wantValues(t, fmt.Sprintf("Values(%d, %d)", first, most), a, values, func(a api.Acceptor) []string {
		return Values(a, first, most)
	})
}

// pick is one of some things.
func pick[T any](r *rand.Rand, l ...T) T { return l[r.Intn(len(l))] }
