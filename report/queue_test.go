package report

import (
	"slices"
	"testing"

	"reef/api"
)

// bans is so many bans that mixed hasn't.
func bans(n int) []api.Inc {
	var l []api.Inc
	for i := range n {
		l = append(l, ban(2, int64(i+1)))
	}
	return l
}

// P17.2

func TestAdd(t *testing.T) {
	m := mixed()
	var l []api.Inc
	for _, c := range []api.Inc{drop(3, last), boot(0, 4), pool(1, 1, 1, 1), drop(0, 3), weigh(0, 0), thru(3, 9), ban(1, 1), boot(0, 5)} {
		l = wantAdd(t, l, m, c, true)
	}
	if len(l) != 8 {
		t.Error(l)
	}
}

// What stands there already is not added, wherever it stands.
func TestAddTwice(t *testing.T) {
	m := mixed()
	l := []api.Inc{drop(3, last), pool(1, 1, 1, 1), ban(1, 1), weigh(0, 0)}
	for i, c := range l {
		wantAdd(t, l, m, c, false)
		wantAdd(t, l[i:i+1], m, c, false)
		wantAdd(t, slices.Delete(slices.Clone(l), i, i+1), m, c, true)
	}
}

// Whatever is unlike in one field is another change.
func TestAddOfNearlyTheSame(t *testing.T) {
	m := mixed()
	l := []api.Inc{boot(0, 5), thru(3, 4), weigh(4, 3), ban(1, 1), pool(3, 2, 4, 2)}
	for _, c := range []api.Inc{
		boot(0, 6), boot(0, 4), boot(5, 5), thru(3, 5), thru(3, 3), thru(4, 4), weigh(4, 4), weigh(1, 3), weigh(5, 3), ban(1, 3), ban(2, 1),
		pool(2, 2, 4, 2), pool(3, 1, 4, 2), pool(3, 2, 5, 2), pool(3, 2, 4, 1),
	} {
		wantAdd(t, l, m, c, true)
	}
}

// What stands there that is no use any more, or is none, plays no part but that it takes room.
func TestAddBehindOddOnes(t *testing.T) {
	l := []api.Inc{{}, drop(2, 5), {Kind: -7, Osd: 99, Num: -1}, {}, drop(2, 5)}
	wantAdd(t, l, mixed(), drop(0, 3), true)
	wantAdd(t, l, mixed(), api.Inc{}, false)
	wantAdd(t, l, mixed(), drop(2, 5), false)
	wantAdd(t, slices.Repeat(l, 3), mixed(), drop(0, 3), true)
	wantAdd(t, slices.Repeat(l, 4)[:room], mixed(), drop(0, 3), false)
}

func TestAddOfNoUse(t *testing.T) {
	m := mixed()
	for _, l := range [][]api.Inc{nil, {}, {drop(0, 3)}, bans(room - 1), bans(room), bans(room + 1)} {
		for _, c := range []api.Inc{{}, boot(0, 3), boot(2, 4), drop(2, 5), weigh(1, 0), thru(0, 10), ban(0, 7), {Kind: 9, Num: 1}, drop(-1, 3), pool(1, 2, 1, 1)} {
			wantAdd(t, l, m, c, false)
		}
	}
	wantAdd(t, nil, heavy(2, 1), weigh(1, 0), false)
}

func TestAddOfAFullList(t *testing.T) {
	m := mixed()
	for n := range 40 {
		wantAdd(t, bans(n), m, drop(0, 3), n < room)
		wantAdd(t, slices.Repeat(bans(1), n), m, drop(0, 3), n < room)
	}
	wantAdd(t, slices.Repeat([]api.Inc{{}}, 70000), m, drop(0, 3), false)
}

// P17.3

func TestFirst(t *testing.T) {
	m := mixed()
	l := []api.Inc{boot(0, 3), {}, drop(2, 5), drop(0, 3), weigh(1, 0), ban(0, 7), ban(0, 8), drop(0, 3), thru(0, 10)}
	for from := range l {
		want := slices.IndexFunc(l[from:], func(c api.Inc) bool { return c == drop(0, 3) || c == ban(0, 8) })
		wantFirst(t, l[from:], m, want)
	}
	wantFirst(t, l, m, 3)
	wantFirst(t, l[4:], m, 2)
	wantFirst(t, l[8:], m, -1)
	wantFirst(t, nil, m, -1)
	wantFirst(t, []api.Inc{}, m, -1)
	wantFirst(t, bans(1), m, 0)
	wantFirst(t, bans(room), m, 0)
	wantFirst(t, append(bans(40), drop(0, 3)), m, 0)
	wantFirst(t, slices.Repeat([]api.Inc{{}, boot(0, 3)}, 40), m, -1)
	wantFirst(t, append(slices.Repeat([]api.Inc{{}, boot(0, 3)}, 40), ban(2, 1)), m, 80)
}

// Useful is meant, not what changes something: the last weight stays.
func TestFirstOfTheLastWeight(t *testing.T) {
	wantFirst(t, []api.Inc{weigh(1, 0), weigh(1, 0)}, heavy(2, 1), -1)
	wantFirst(t, []api.Inc{weigh(1, 0), weigh(0, 0), weigh(0, 3), weigh(1, 0)}, heavy(2, 1), 2)
	wantFirst(t, []api.Inc{weigh(1, 0), weigh(0, 3)}, heavy(2, 0, 1), 0)
}
