package lead

import (
	"math"
	"slices"
	"testing"

	"reef/api"
)

// P16.8

func TestWait(t *testing.T) {
	wantWait(t, asking(from(0, 2)...), 5, 1, 3, 4)
	wantWait(t, asking(from(0, 2)...), 3, 1)
	wantWait(t, asking(from(0, 2)...), 2, 1)
	wantWait(t, asking(from(0, 2)...), 1)
	wantWait(t, asking(), 3, 0, 1, 2)
	wantWait(t, asking(from(0, 1, 2)...), 3)
	wantWait(t, asking(told(1, 4, bal(1, 0), "a")), 3, 0, 2)
	wantWait(t, leading(0, 2), 5, 1, 3, 4)
	wantWait(t, leading(0, 2), 3, 1)
	wantWait(t, leading(0, 2), 2, 1)
	wantWait(t, leading(0, 2), 1)
	wantWait(t, leading(), 3, 0, 1, 2)
	wantWait(t, leading(0, 1, 2), 3)
}

// Who asks waits for promises, who leads for those that accept.
func TestWaitGoesByTheState(t *testing.T) {
	wantWait(t, mixed(api.LdAsk), 5, 1, 3)
	wantWait(t, with(mixed(api.LdAsk), func(l *api.Leader) { l.Has = false }), 5, 1, 3)
	wantWait(t, mixed(api.LdLead), 5, 0, 3)
	wantWait(t, with(mixed(api.LdLead), func(l *api.Leader) { l.Promises = nil }), 5, 0, 3)
	for _, l := range leaders() {
		if l.State != api.LdAsk && (l.State != api.LdLead || !l.Has) {
			for _, mons := range []int{-1, 0, 1, 5, far} {
				wantWait(t, l, mons)
			}
		}
	}
}

func TestWaitOfNoMonitors(t *testing.T) {
	for _, mons := range []int{math.MinInt, -1 << 32, -5, -1, 0} {
		for _, l := range leaders() {
			wantWait(t, l, mons)
		}
	}
}

// Of the numbers from 64 on none is gone through.
func TestWaitOfManyMonitors(t *testing.T) {
	var all []int
	for mon := range far {
		all = append(all, mon)
	}
	ids := []int{0, 5, far - 1, far, far + 1}
	rest := slices.Concat(all[1:5], all[6:far-1])
	for _, mons := range []int{far, far + 1, far + 2, 99, 1 << 31, 1 << 32, 1<<32 + 3, math.MaxInt} {
		wantWait(t, asking(), mons, all...)
		wantWait(t, leading(), mons, all...)
		wantWait(t, asking(from(ids...)...), mons, rest...)
		wantWait(t, leading(ids...), mons, rest...)
		wantWait(t, asking(from(all...)...), mons)
		wantWait(t, leading(all...), mons)
	}
	wantWait(t, asking(), far-1, all[:far-1]...)
	wantWait(t, leading(ids...), far-1, rest...)
	wantWait(t, leading(ids...), far-2, rest[:len(rest)-1]...)
}

// Numbers of monitors that are none play no part.
func TestWaitOfOddMonitors(t *testing.T) {
	wantWait(t, asking(from(math.MinInt, -1, 1, 5, 1<<32, math.MaxInt)...), 3, 0, 2)
	wantWait(t, leading(math.MinInt, -1, 1, 5, 1<<32, math.MaxInt), 3, 0, 2)
}

func TestSame(t *testing.T) {
	l := leaders()
	for i := range l {
		for j := range l {
			wantSame(t, l[i], l[j], alike(l[i], l[j]))
		}
		wantSame(t, l[i], with(l[i], func(*api.Leader) {}), true)
	}
}

func TestSameFieldByField(t *testing.T) {
	for i, change := range []func(l *api.Leader){
		func(l *api.Leader) { l.State++ },
		func(l *api.Leader) { l.State = api.LdNone },
		func(l *api.Leader) { l.Ballot.Round-- },
		func(l *api.Leader) { l.Ballot.Mon++ },
		func(l *api.Leader) { l.Has = !l.Has },
		func(l *api.Leader) { l.Value = "" },
		func(l *api.Leader) { l.Value = "w" },
		func(l *api.Leader) { l.Value += "v" },
		func(l *api.Leader) { l.Promises = nil },
		func(l *api.Leader) { l.Promises = l.Promises[:2] },
		func(l *api.Leader) { l.Promises = append(l.Promises, api.Promise{}) },
		func(l *api.Leader) { slices.Reverse(l.Promises) },
		func(l *api.Leader) { l.Promises[0].Mon = -1 },
		func(l *api.Leader) { l.Promises[1].Count++ },
		func(l *api.Leader) { l.Promises[2].Has = false },
		func(l *api.Leader) { l.Promises[1].At.Round++ },
		func(l *api.Leader) { l.Promises[2].At.Mon-- },
		func(l *api.Leader) { l.Promises[2].Value = "" },
		func(l *api.Leader) { l.Acked = nil },
		func(l *api.Leader) { l.Acked = l.Acked[:2] },
		func(l *api.Leader) { l.Acked = append(l.Acked, 0) },
		func(l *api.Leader) { l.Acked[2] = 5 },
		func(l *api.Leader) { slices.Reverse(l.Acked) },
	} {
		a, b := mixed(api.LdLead), with(mixed(api.LdLead), change)
		if Same(a, b) || Same(b, a) {
			t.Error("they are the same by change", i)
		}
	}
}

// Rows that are empty are the same as rows that are nil; the spare room plays no part.
func TestSameOfEmptyRows(t *testing.T) {
	a := api.Leader{State: api.LdLead, Ballot: bal(1, 0)}
	b := with(a, func(l *api.Leader) { l.Promises = []api.Promise{} })
	c := with(a, func(l *api.Leader) { l.Acked = []int{} })
	d := with(b, func(l *api.Leader) { l.Acked = make([]int, 0, 9) })
	for _, x := range []api.Leader{a, b, c, d} {
		for _, y := range []api.Leader{a, b, c, d} {
			if !Same(x, y) {
				t.Errorf("Same(%#v, %#v): false", x, y)
			}
		}
	}
	a, b = mixed(api.LdAsk), mixed(api.LdAsk)
	a.Acked, b.Acked = roomy(a.Acked, 7), roomy(b.Acked, 8)
	a.Promises, b.Promises = roomy(a.Promises, empty(7, 7)), roomy(b.Promises, empty(8, 8))
	if !Same(a, b) {
		t.Error("the spare room plays a part")
	}
}

// Any leaders, rows that do not rise too.
func TestSameOfOddLeaders(t *testing.T) {
	a := api.Leader{State: -5, Ballot: bal(math.MinInt64, math.MaxInt), Promises: from(3, 1, 1, -4), Value: "\xff", Acked: []int{5, 5, math.MinInt}}
	wantSame(t, a, a, true)
	wantSame(t, a, with(a, func(l *api.Leader) { l.Acked[0], l.Acked[2] = l.Acked[2], l.Acked[0] }), false)
	wantSame(t, a, with(a, func(l *api.Leader) { l.Promises[1], l.Promises[2] = l.Promises[2], l.Promises[1] }), false)
	wantSame(t, a, with(a, func(l *api.Leader) { l.Promises = l.Promises[:3] }), false)
}
