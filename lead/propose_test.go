package lead

import (
	"math"
	"strings"
	"testing"

	"reef/api"
)

// P16.6

func TestLead(t *testing.T) {
	for _, l := range leaders() {
		for _, b := range []api.Ballot{{}, bal(6, 2), bal(top, 4), bal(-1, math.MaxInt), bal(math.MinInt64, -1)} {
			l.Ballot = b
			lead(t, l, api.Leader{State: api.LdLead, Ballot: b})
		}
	}
}

func TestPropose(t *testing.T) {
	for _, value := range []string{"v", "", "\x00\xff", strings.Repeat("v", 257)} {
		for _, mon := range []int{2, 0, -1, 5, far, math.MinInt, math.MaxInt} {
			propose(t, idle(), value, mon, api.Leader{State: api.LdLead, Ballot: bal(6, 2), Has: true, Value: value, Acked: []int{mon}})
		}
	}
}

// One at a time.
func TestProposeWithSomethingUnderWay(t *testing.T) {
	for _, l := range []api.Leader{leading(), leading(2), leading(0, 1, 2), mixed(api.LdLead), {State: api.LdLead, Has: true}} {
		for _, mon := range []int{0, 1, 2, 3, -1} {
			propose(t, l, "w", mon, l)
			propose(t, l, "", mon, l)
			propose(t, l, l.Value, mon, l)
		}
	}
}

func TestProposeOfWhoDoesNotLead(t *testing.T) {
	for _, l := range leaders() {
		if l.State != api.LdLead {
			propose(t, l, "w", 2, l)
		}
	}
	propose(t, asking(from(0, 1, 2)...), "w", 2, asking(from(0, 1, 2)...))
}

// What stood there while nothing was under way gives way; the promises stay.
func TestProposeOfAnOddLeader(t *testing.T) {
	l := with(mixed(api.LdLead), func(l *api.Leader) { l.Has = false })
	want := with(mixed(api.LdLead), func(l *api.Leader) { l.Value, l.Acked = "w", []int{3} })
	propose(t, l, "w", 3, want)
}

func TestAck(t *testing.T) {
	l := propose(t, idle(), "v", 2, leading(2))
	l = ack(t, l, 0, leading(0, 2))
	l = ack(t, l, 4, leading(0, 2, 4))
	l = ack(t, l, 3, leading(0, 2, 3, 4))
	for _, mon := range []int{0, 2, 3, 4} { // one that stands there
		l = ack(t, l, mon, l)
	}
	ack(t, l, 1, leading(0, 1, 2, 3, 4))
	ack(t, leading(), 3, leading(3))
	ack(t, leading(2), 2, leading(2))
	ack(t, leading(0, 4), 3, leading(0, 3, 4))
}

// Any monitors: they rise.
func TestAckOfOddMonitors(t *testing.T) {
	l := ack(t, leading(-1, 3, far), math.MaxInt, leading(-1, 3, far, math.MaxInt))
	l = ack(t, l, math.MinInt, leading(math.MinInt, -1, 3, far, math.MaxInt))
	l = ack(t, l, 1<<32+3, leading(math.MinInt, -1, 3, far, 1<<32+3, math.MaxInt))
	l = ack(t, l, -2, leading(math.MinInt, -2, -1, 3, far, 1<<32+3, math.MaxInt))
	ack(t, l, math.MinInt, l)
	ack(t, l, math.MaxInt, l)
}

func TestAckOfNothingUnderWay(t *testing.T) {
	for _, l := range leaders() {
		for _, mon := range []int{-1, 0, 1, 2, 3, 4, 5} {
			if !l.Has {
				ack(t, l, mon, l)
			}
		}
	}
}

// Whoever has something under way, whatever it is; all but Acked stays.
func TestAckKeeps(t *testing.T) {
	for _, state := range []int{math.MinInt, -1, api.LdNone, api.LdAsk, api.LdLead, 3, math.MaxInt} {
		ack(t, mixed(state), 3, with(mixed(state), func(l *api.Leader) { l.Acked = []int{1, 2, 3, 4} }))
		ack(t, mixed(state), 2, mixed(state))
		ack(t, api.Leader{State: state, Has: true}, 9, api.Leader{State: state, Has: true, Acked: []int{9}})
	}
}

// P16.7

func TestChosen(t *testing.T) {
	ids := []int{0, 1, 2, 3, 4, 5, 6}
	for n := range ids {
		l := leading(ids[:n]...)
		for mons, need := range []int{99, 1, 2, 2, 3, 3, 4, 4, 5} {
			wantChosen(t, l, mons, n >= need)
		}
		l.Has = false
		for mons := range 9 {
			wantChosen(t, l, mons, false)
		}
	}
	l := ack(t, ack(t, leading(2), 2, leading(2)), 2, leading(2)) // one that acks again counts once
	wantChosen(t, l, 3, false)
	wantChosen(t, l, 1, true)
	wantChosen(t, leading(-1, 70, 1<<40), 5, true) // whoever they are
	wantChosen(t, with(leading(0, 1), func(l *api.Leader) { l.Value = "" }), 3, true)
}

func TestChosenOfNoMonitors(t *testing.T) {
	for _, mons := range []int{math.MinInt, -1 << 32, -5, -2, -1, 0} {
		wantChosen(t, leading(), mons, false)
		wantChosen(t, leading(0), mons, false)
		wantChosen(t, leading(0, 1, 2, 3, 4), mons, false)
	}
	wantChosen(t, leading(0, 1, 2), 1<<40, false)
	wantChosen(t, leading(0, 1, 2), math.MaxInt, false)
}

// The promises play no part, nor does the state.
func TestChosenOfOddLeaders(t *testing.T) {
	for _, state := range []int{math.MinInt, -1, api.LdNone, api.LdAsk, api.LdLead, 3, math.MaxInt} {
		wantChosen(t, mixed(state), 5, true)
		wantChosen(t, mixed(state), 6, false)
		wantChosen(t, with(mixed(state), func(l *api.Leader) { l.Acked = nil }), 5, false)
		wantChosen(t, with(mixed(state), func(l *api.Leader) { l.Promises = nil }), 5, true)
	}
}

func TestDone(t *testing.T) {
	done(t, leading(0, 2), idle())
	done(t, leading(), idle())
	done(t, idle(), idle()) // nothing
	done(t, api.Leader{}, api.Leader{})
	for _, l := range leaders() {
		want := with(l, func(l *api.Leader) { l.Has, l.Value, l.Acked = false, "", nil })
		done(t, l, want)
		done(t, want, want)
	}
}

// Behind it the next one goes.
func TestProposeBehindDone(t *testing.T) {
	l := done(t, leading(0, 2), idle())
	l = propose(t, l, "w", 2, with(leading(2), func(l *api.Leader) { l.Value = "w" }))
	wantChosen(t, l, 3, false)
}
