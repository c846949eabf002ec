package lead

import (
	"fmt"
	"maps"
	"math/rand"
	"slices"
	"testing"

	"reef/api"
)

// model is a leader as the chapter's words have it: its rows are sets by monitors.
type model struct {
	state    int
	ballot   api.Ballot
	promises map[int]api.Promise
	has      bool
	value    string
	acked    map[int]bool
}

func modelOf(l api.Leader) *model {
	m := &model{l.State, l.Ballot, map[int]api.Promise{}, l.Has, l.Value, map[int]bool{}}
	for _, p := range l.Promises {
		m.promises[p.Mon] = p
	}
	for _, mon := range l.Acked {
		m.acked[mon] = true
	}
	return m
}

// leader is the model as one.
func (m *model) leader() api.Leader {
	l := api.Leader{State: m.state, Ballot: m.ballot, Has: m.has, Value: m.value, Acked: slices.Sorted(maps.Keys(m.acked))}
	for _, mon := range slices.Sorted(maps.Keys(m.promises)) {
		l.Promises = append(l.Promises, m.promises[mon])
	}
	return l
}

func (m *model) hear(p api.Promise) {
	if m.state == 1 {
		m.promises[p.Mon] = p
	}
}

func (m *model) propose(value string, mon int) {
	if m.state == 2 && !m.has {
		m.has, m.value, m.acked = true, value, map[int]bool{mon: true}
	}
}

func (m *model) ack(mon int) {
	if m.has {
		m.acked[mon] = true
	}
}

func (m *model) done() { m.has, m.value, m.acked = false, "", map[int]bool{} }

func (m *model) lead() { *m = *modelOf(api.Leader{State: 2, Ballot: m.ballot}) }

// pick goes through the promises by monitors, the first ones last, so that of two alike the first one stays.
func (m *model) pick(count int64) (string, bool) {
	var best api.Promise
	l := m.leader().Promises
	slices.Reverse(l)
	for _, p := range l {
		if !p.Has || p.Count != count {
			continue
		}
		at, to := p.At, best.At
		if !best.Has || at.Round > to.Round || at.Round == to.Round && at.Mon >= to.Mon {
			best = p
		}
	}
	return best.Value, best.Has
}

// wait is the monitors that are asked once more.
func (m *model) wait(mons int) []int {
	var l []int
	for mon := 0; mon < mons && mon < 64; mon++ {
		_, promised := m.promises[mon]
		if m.state == 1 && !promised || m.state == 2 && m.has && !m.acked[mon] {
			l = append(l, mon)
		}
	}
	return l
}

func chanceBallot(r *rand.Rand) api.Ballot { return bal(int64(r.Intn(3)), r.Intn(3)) }

// chanceMon is mostly a monitor.
func chanceMon(r *rand.Rand) int {
	if r.Intn(12) == 0 {
		return int(pick(r, odd()...))
	}
	return r.Intn(mons)
}

func chancePromise(r *rand.Rand) api.Promise {
	p := told(chanceMon(r), int64(4+r.Intn(2)), chanceBallot(r), pick(r, "a", "b", "c", "d", "e", ""))
	p.Has = r.Intn(3) > 0
	return p
}

// asked holds what a leader tells of itself against its model.
func (m *model) asked(t *testing.T, r *rand.Rand, l api.Leader) {
	t.Helper()
	count := int64(3 + r.Intn(4))
	value, ok := m.pick(count)
	wantPick(t, l, count, value, ok)
	for _, mons := range []int{-1 + r.Intn(8), int(pick(r, odd()...))} {
		wantWait(t, l, mons, m.wait(mons)...)
		wantEnough(t, l, mons, m.state == 1 && mons > 0 && len(m.promises) > mons/2)
		wantChosen(t, l, mons, m.has && mons > 0 && len(m.acked) > mons/2)
	}
}

// step does one step of chance at a leader and its model, and holds them against each other.
func (m *model) step(t *testing.T, r *rand.Rand, l api.Leader) api.Leader {
	t.Helper()
	mon, value, p := chanceMon(r), pick(r, "v", "w", ""), chancePromise(r)
	switch r.Intn(20) {
	case 0:
		m.lead()
		return lead(t, l, m.leader())
	case 1, 2:
		m.done()
		return done(t, l, m.leader())
	case 3, 4, 5, 6:
		m.propose(value, mon)
		return propose(t, l, value, mon, m.leader())
	case 7, 8, 9, 10, 11:
		m.ack(mon)
		return ack(t, l, mon, m.leader())
	case 12:
		b := chanceBallot(r)
		*m = *modelOf(api.Leader{State: 1, Ballot: b, Promises: []api.Promise{p}})
		return Begin(b, p)
	}
	m.hear(p)
	return hear(t, l, p, m.leader())
}

// P16.2 to P16.8, behind whatever row of calls.
func TestRunsOfChance(t *testing.T) {
	r := rand.New(rand.NewSource(16))
	full := 0
	for range 400 {
		l := pick(r, leaders()...)
		m := modelOf(l)
		for range 60 {
			l = m.step(t, r, l)
			wantSame(t, l, m.leader(), true)
			m.asked(t, r, l)
			if len(l.Promises) > mons || len(l.Acked) > mons {
				full++
			}
		}
	}
	if full < 200 {
		t.Errorf("rows were long only %d times", full)
	}
}

// What is answered hangs on nothing but what is asked.
func TestAskedAtTheSameTime(t *testing.T) {
	asks, leads := asking(from(0, 2, 4)...), leading(0, 2, 4)
	got := make(chan string)
	for range 8 {
		go func() {
			l := Hear(Hear(asks, empty(3, 9)), empty(0, 9))
			k := Done(Ack(Ack(leads, 3), 1))
			got <- brief(l) + brief(k) + fmt.Sprint(Wait(l, 5), Wait(leads, 5))
		}()
	}
	l := asking(empty(0, 9), empty(2, 1), empty(3, 9), empty(4, 2))
	want := brief(l) + brief(idle()) + "[1] [1 3]"
	for range 8 {
		if s := <-got; s != want {
			t.Errorf("%s; want %s", s, want)
		}
	}
}

// 0.1: of a leader whose rows do not rise nothing is promised, but that each call ends and none panics.
func TestUnfitLeaders(t *testing.T) {
	r := rand.New(rand.NewSource(17))
	num := func() int { return int(pick(r, odd()...)) }
	for range 3000 {
		l := api.Leader{State: r.Intn(5) - 1, Ballot: bal(int64(num()), num()), Has: r.Intn(2) == 0, Value: "v"}
		for range r.Intn(9) {
			l.Promises = append(l.Promises, told(num(), int64(num()), bal(int64(num()), num()), "p"))
			l.Acked = append(l.Acked, num())
		}
		p := told(num(), int64(num()), bal(int64(num()), num()), "q")
		_, _, _ = Hear(l, p), Enough(l, num()), Wait(l, num())
		_, _ = Pick(l, int64(num()))
		_, _, _ = Lead(l), Propose(l, "w", num()), Ack(l, num())
		_, _, _ = Chosen(l, num()), Done(l), Same(l, l)
	}
}

// Long rows take no long time.
func TestLongRows(t *testing.T) {
	var ids []int
	for i := range 200000 {
		ids = append(ids, 2*i)
	}
	asks, leads := asking(from(ids...)...), leading(ids...)
	for range 50 {
		asks, leads = Hear(asks, empty(100001, 1)), Ack(leads, 100001)
		if len(asks.Promises) != len(ids)+1 || len(leads.Acked) != len(ids)+1 || len(Wait(asks, far)) != far/2 || len(Wait(leads, far)) != far/2 {
			t.Fatal("not all stand there")
		}
	}
	if value, ok := Pick(asks, 7); ok || !Enough(asks, 2*len(ids)) || Chosen(leads, 2*len(ids)+2) {
		t.Error(value, ok)
	}
}
