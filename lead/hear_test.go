package lead

import (
	"cmp"
	"math"
	"slices"
	"testing"

	"reef/api"
)

// P16.2

func TestBegin(t *testing.T) {
	for _, b := range []api.Ballot{{}, bal(6, 2), bal(top, 4), bal(-1, 99), bal(math.MaxInt64, math.MinInt)} {
		for _, own := range []api.Promise{{}, empty(2, 4), told(2, 4, bal(5, 1), "a"), told(-7, math.MinInt64, bal(-1, -1), "\xff"), {Mon: 1, Value: "no"}} {
			want := api.Leader{State: api.LdAsk, Ballot: b, Promises: []api.Promise{own}}
			got := Begin(b, own)
			if !alike(got, want) {
				t.Errorf("Begin(%v, %+v): %s", b, own, brief(got))
			}
			got.Promises[0] = told(9, 9, b, "spoilt")
			if again := Begin(b, own); !alike(again, want) {
				t.Errorf("Begin(%v, %+v) once more: %s", b, own, brief(again))
			}
		}
	}
}

// P16.3

func TestHear(t *testing.T) {
	a, b, c, d := told(0, 4, bal(1, 0), "a"), empty(1, 3), told(2, 4, bal(5, 1), "c"), empty(4, 0)
	l := hear(t, asking(c), b, asking(b, c)) // ahead of it
	l = hear(t, l, d, asking(b, c, d))       // behind it
	l = hear(t, l, a, asking(a, b, c, d))    // ahead of all
	x := told(3, 9, bal(2, 2), "x")
	hear(t, l, x, asking(a, b, c, x, d)) // in the middle
	hear(t, asking(a, x), c, asking(a, c, x))
	hear(t, asking(), x, asking(x))
	hear(t, asking(a), x, asking(a, x))
	hear(t, asking(x, d), a, asking(a, x, d))
	l = hear(t, l, b, l) // as it stands there
	y := told(5, 1, bal(5, 1), "y")
	hear(t, l, y, asking(a, b, c, d, y))
}

// In the place of one of the same monitor, whatever it tells.
func TestHearAgain(t *testing.T) {
	row := []api.Promise{told(0, 4, bal(1, 0), "a"), empty(1, 3), told(2, 4, bal(5, 1), "c"), empty(4, 0)}
	for i := range row {
		for _, p := range []api.Promise{
			empty(row[i].Mon, 0), empty(row[i].Mon, 9), told(row[i].Mon, 4, bal(9, 9), "w"), told(row[i].Mon, 4, bal(1, 0), "a"),
			told(row[i].Mon, -4, bal(-1, -1), ""), {Mon: row[i].Mon, At: bal(7, 7), Value: "no"},
		} {
			want := slices.Clone(row)
			want[i] = p
			hear(t, asking(row...), p, asking(want...))
			hear(t, asking(row[i]), p, asking(p))
		}
	}
}

// All but the promises stays, of odd ones too.
func TestHearKeeps(t *testing.T) {
	l := mixed(api.LdAsk)
	p := told(3, 4, bal(4, 4), "p")
	hear(t, l, p, with(l, func(l *api.Leader) { l.Promises = slices.Insert(l.Promises, 2, p) }))
	p.Mon = 2
	hear(t, l, p, with(l, func(l *api.Leader) { l.Promises[1] = p }))
}

// Who does not ask hears nothing.
func TestHearOfWhoDoesNotAsk(t *testing.T) {
	for _, l := range leaders() {
		if l.State == api.LdAsk {
			continue
		}
		for _, mon := range []int{-1, 0, 1, 2, 3, 4, 5} {
			hear(t, l, told(mon, 4, bal(9, 9), "w"), l)
			hear(t, l, empty(mon, 4), l)
		}
	}
}

// Any monitors: they rise.
func TestHearOfOddMonitors(t *testing.T) {
	l := asking()
	for i, mon := range []int{math.MaxInt, -1, 3, math.MinInt, far, -1 << 32, 0, 1 << 40, far + 1, -3, 3, 0, math.MinInt} {
		p := told(mon, int64(i), bal(int64(-i), i), "v")
		same := func(q api.Promise) bool { return q.Mon == mon }
		want := append(slices.DeleteFunc(slices.Clone(l.Promises), same), p)
		slices.SortFunc(want, func(a, b api.Promise) int { return cmp.Compare(a.Mon, b.Mon) })
		l = hear(t, l, p, asking(want...))
	}
	if len(l.Promises) != 10 {
		t.Errorf("%d promises are there", len(l.Promises))
	}
}
