package lead

import (
	"fmt"
	"math"
	"math/rand"
	"slices"
	"testing"

	"reef/api"
)

// The chapter's bounds.
const (
	top  = 1 << 30 // the greatest Round
	mons = 5
	far  = 64 // monitors from here on are not gone through
)

func bal(round int64, mon int) api.Ballot { return api.Ballot{Round: round, Mon: mon} }

// empty is a promise of nothing accepted.
func empty(mon int, count int64) api.Promise { return api.Promise{Mon: mon, Count: count} }

// told is a promise of a value that was accepted.
func told(mon int, count int64, at api.Ballot, value string) api.Promise {
	return api.Promise{Mon: mon, Count: count, Has: true, At: at, Value: value}
}

// asking is a leader that has these promises.
func asking(l ...api.Promise) api.Leader {
	return api.Leader{State: api.LdAsk, Ballot: bal(6, 2), Promises: l}
}

// from is promises of these monitors, each with a count of its own.
func from(ids ...int) []api.Promise {
	var l []api.Promise
	for i, mon := range ids {
		l = append(l, empty(mon, int64(i)))
	}
	return l
}

// leading is a leader with a value under way that these have accepted.
func leading(acked ...int) api.Leader {
	return api.Leader{State: api.LdLead, Ballot: bal(6, 2), Has: true, Value: "v", Acked: acked}
}

// idle is a leader with nothing under way.
func idle() api.Leader { return api.Leader{State: api.LdLead, Ballot: bal(6, 2)} }

// mixed is a leader of a state with something of all.
func mixed(state int) api.Leader {
	return api.Leader{
		State: state, Ballot: bal(6, 2), Promises: []api.Promise{empty(0, 4), told(2, 4, bal(1, 1), "a"), told(4, 5, bal(3, 0), "b")},
		Has: true, Value: "v", Acked: []int{1, 2, 4},
	}
}

// leaders is ones of all states, odd ones too.
func leaders() []api.Leader {
	l := []api.Leader{{}, asking(), asking(from(2)...), asking(from(0, 1, 2)...), idle(), leading(), leading(2), leading(0, 2, 4)}
	for _, state := range []int{math.MinInt, -1, api.LdNone, api.LdAsk, api.LdLead, 3, math.MaxInt} {
		held := with(mixed(state), func(l *api.Leader) { l.Has = false })
		l = append(l, mixed(state), held, api.Leader{State: state}, api.Leader{State: state, Has: true})
	}
	long := mixed(api.LdAsk)
	long.Promises, long.Acked = from(-7, 1, 63, 64, 1<<40), []int{math.MinInt, -1, 3, 63, 64, math.MaxInt}
	return append(l, long, with(long, func(l *api.Leader) { l.State = api.LdLead }))
}

// odd is numbers near a bound of any kind.
func odd() []int64 {
	return []int64{
		math.MinInt64, math.MinInt64 + 1, -1 << 32, -2, -1, 0, 1, 2, 3, 4, 5, 6, far - 1, far, far + 1,
		top - 1, top, top + 1, 1<<31 - 1, 1 << 31, 1 << 32, 1<<32 + 1, math.MaxInt64 - 1, math.MaxInt64,
	}
}

// with is a leader that was changed by hand.
func with(l api.Leader, change func(l *api.Leader)) api.Leader {
	l.Promises, l.Acked = slices.Clone(l.Promises), slices.Clone(l.Acked)
	change(&l)
	return l
}

// alike holds two leaders against each other, without asking the package.
func alike(a, b api.Leader) bool { return brief(a) == brief(b) }

// brief is all of a leader in a line.
func brief(l api.Leader) string {
	s := fmt.Sprintf("%d %v %v %q %d", l.State, l.Ballot, l.Has, l.Value, l.Acked)
	for _, p := range l.Promises {
		s += fmt.Sprintf(" {%d %d %v %v %q}", p.Mon, p.Count, p.Has, p.At, p.Value)
	}
	return s
}

// roomy is a list with spare room, in which something stands.
func roomy[T any](l []T, room T) []T {
	return append(slices.Clone(l), room, room, room)[:len(l)]
}

// whole is a leader with what stands in its lists' spare room.
func whole(l api.Leader) api.Leader {
	l.Promises, l.Acked = l.Promises[:cap(l.Promises)], l.Acked[:cap(l.Acked)]
	return l
}

// spoil lays something over a list and its spare room.
func spoil[T any](l []T, x T) {
	l = l[:cap(l)]
	for i := range l {
		l[i] = x
	}
}

// handed is a leader with spare room, and a question whether it is what it was.
func handed(t *testing.T, what string, l api.Leader) (api.Leader, func()) {
	l.Promises, l.Acked = roomy(l.Promises, told(-9, -9, bal(-9, -9), "room")), roomy(l.Acked, -9)
	was := brief(whole(l))
	return l, func() {
		t.Helper()
		if is := brief(whole(l)); is != was {
			t.Fatalf("%s has changed what went in: %s; it was %s", what, is, was)
		}
	}
}

// call does something to a leader, asks for the one that is wanted, and that what went in stays, even when what came out is written over.
func call(t *testing.T, what string, l, want api.Leader, do func(l api.Leader) api.Leader) api.Leader {
	t.Helper()
	in, stays := handed(t, what, l)
	got := do(in)
	if !alike(got, want) {
		t.Fatalf("%s of %s: %s; want %s", what, brief(l), brief(got), brief(want))
	}
	out := with(got, func(*api.Leader) {})
	spoil(got.Promises, told(-8, -8, bal(-8, -8), "spoilt"))
	spoil(got.Acked, -8)
	stays()
	return out
}

func hear(t *testing.T, l api.Leader, p api.Promise, want api.Leader) api.Leader {
	t.Helper()
	return call(t, fmt.Sprintf("Hear(%+q)", fmt.Sprint(p)), l, want, func(l api.Leader) api.Leader { return Hear(l, p) })
}

func lead(t *testing.T, l, want api.Leader) api.Leader {
	t.Helper()
	return call(t, "Lead", l, want, Lead)
}

func propose(t *testing.T, l api.Leader, value string, mon int, want api.Leader) api.Leader {
	t.Helper()
	return call(t, fmt.Sprintf("Propose(%q, %d)", value, mon), l, want, func(l api.Leader) api.Leader { return Propose(l, value, mon) })
}

func ack(t *testing.T, l api.Leader, mon int, want api.Leader) api.Leader {
	t.Helper()
	return call(t, fmt.Sprintf("Ack(%d)", mon), l, want, func(l api.Leader) api.Leader { return Ack(l, mon) })
}

func done(t *testing.T, l, want api.Leader) api.Leader {
	t.Helper()
	return call(t, "Done", l, want, Done)
}

// wantIs asks a leader something by so many monitors.
func wantIs(t *testing.T, what string, ask func(l api.Leader, mons int) bool, l api.Leader, mons int, is bool) {
	t.Helper()
	in, stays := handed(t, what, l)
	if ask(in, mons) != is {
		t.Fatalf("%s(%s, %d): %v; want %v", what, brief(l), mons, !is, is)
	}
	stays()
}

func wantEnough(t *testing.T, l api.Leader, mons int, is bool) {
	t.Helper()
	wantIs(t, "Enough", Enough, l, mons, is)
}

func wantChosen(t *testing.T, l api.Leader, mons int, is bool) {
	t.Helper()
	wantIs(t, "Chosen", Chosen, l, mons, is)
}

func wantPick(t *testing.T, l api.Leader, count int64, value string, ok bool) {
	t.Helper()
	in, stays := handed(t, "Pick", l)
	if got, is := Pick(in, count); got != value || is != ok {
		t.Fatalf("Pick(%s, %d): %q %v; want %q %v", brief(l), count, got, is, value, ok)
	}
	stays()
}

func wantWait(t *testing.T, l api.Leader, mons int, want ...int) {
	t.Helper()
	in, stays := handed(t, "Wait", l)
	got := Wait(in, mons)
	if !slices.Equal(got, want) {
		t.Fatalf("Wait(%s, %d): %d; want %d", brief(l), mons, got, want)
	}
	spoil(got, -8)
	stays()
}

func wantSame(t *testing.T, a, b api.Leader, is bool) {
	t.Helper()
	inA, staysA := handed(t, "Same", a)
	inB, staysB := handed(t, "Same", b)
	if Same(inA, inB) != is || Same(inB, inA) != is {
		t.Fatalf("Same(%s, %s): %v; want %v", brief(a), brief(b), !is, is)
	}
	staysA()
	staysB()
}

// pick is one of some things.
func pick[T any](r *rand.Rand, l ...T) T { return l[r.Intn(len(l))] }
