package report

import (
	"slices"
	"testing"

	"reef/api"
)

// P17.4

func TestNeed(t *testing.T) {
	for n := 1; n <= 8; n++ {
		m := up(n)
		for osd := n - 1; osd >= -1; osd-- {
			if ups := osd + 1; ups < 3 {
				wantNeed(t, m, 1)
			} else {
				wantNeed(t, m, 2)
			}
			if osd >= 0 {
				m = but(m, osd)
			}
		}
	}
	wantNeed(t, mixed(), 2)
	wantNeed(t, but(mixed(), 0), 2)
	wantNeed(t, but(mixed(), 0, 4), 1)
	wantNeed(t, api.Map{}, 1)
	wantNeed(t, with(up(3), func(m *api.Map) { m.Osds[1].Weight = 0 }), 2) // who is up counts, with whatever weight
}

// P17.5

// stand is reports that count by mixed.
func stand() []api.Report {
	return []api.Report{says(0, 3, last), says(3, 0, 3), says(5, 4, 1), says(4, 5, 3), says(5, 3, last), says(4, 0, 3)}
}

// fall is reports that do not.
func fall() []api.Report {
	return []api.Report{
		says(0, 0, 3), says(3, 3, last), says(4, 4, 1), // of itself
		says(1, 0, 3), says(2, 0, 3), says(1, 4, 1), // by one that is down
		says(0, 2, 5), says(0, 1, 0), says(3, 1, 1), says(1, 2, 5), // of one that is down
		says(0, 3, last-1), says(3, 0, 2), says(3, 0, 4), says(3, 0, 0), says(5, 4, 0), says(5, 4, 2), says(5, 4, 1<<32+1), says(4, 5, -3), // of another Boot
		says(-1, 0, 3), says(6, 0, 3), says(7, 0, 3), says(8, 0, 3), says(1<<32+3, 0, 3), // by no storage node
		says(0, -1, 3), says(0, 6, 3), says(0, 6, 0), says(0, 7, 1), says(0, 8, 3), says(0, 1<<32+4, 1), // of none
		{}, says(-1, -1, -1), says(0, 1<<40, 0), says(1<<40, 0, 3),
	}
}

func TestClean(t *testing.T) {
	m := mixed()
	for _, r := range stand() {
		wantClean(t, []api.Report{r}, m, r)
	}
	for _, r := range fall() {
		wantClean(t, []api.Report{r}, m)
	}
	wantClean(t, nil, m)
	wantClean(t, stand(), m, stand()...)
	wantClean(t, fall(), m)
	wantClean(t, slices.Concat(fall(), stand(), fall()), m, stand()...)
	for i, r := range stand() { // some between
		wantClean(t, slices.Insert(stand(), i, fall()...), m, stand()...)
		wantClean(t, slices.Insert(fall(), i, r), m, r)
	}
}

// In order: the order in which they come, whichever that is.
func TestCleanInOrder(t *testing.T) {
	m, l := mixed(), stand()
	for range l {
		l = append(l[1:], l[0])
		wantClean(t, l, m, l...)
		back := slices.Clone(l)
		slices.Reverse(back)
		wantClean(t, back, m, back...)
	}
}

// Each once: where it stands first.
func TestCleanOnce(t *testing.T) {
	m, l := mixed(), stand()
	wantClean(t, slices.Concat(l, l, l), m, l...)
	back := slices.Clone(l)
	slices.Reverse(back)
	wantClean(t, slices.Concat(l, back), m, l...)
	wantClean(t, slices.Concat(back, l), m, back...)
	wantClean(t, slices.Repeat(l[:1], 200), m, l[0])
	wantClean(t, []api.Report{l[2], l[0], l[2], l[1], l[0], l[2]}, m, l[2], l[0], l[1])
	wantClean(t, []api.Report{says(3, 0, 2), says(3, 0, 3), says(3, 0, 2), says(3, 0, 3)}, m, says(3, 0, 3)) // one of another Boot is another one
}

// Of one node by many, and of many by one, all stand; who says so of whom is not who is said to be down by whom.
func TestCleanOfAllWords(t *testing.T) {
	for n := 1; n <= 8; n++ {
		l := words(n)
		wantClean(t, l, up(n), l...)
		wantClean(t, slices.Concat(l, l), up(n), l...)
	}
	wantClean(t, []api.Report{of(1, 2), of(2, 1), of(1, 2)}, up(3), of(1, 2), of(2, 1))
}

// Lists of any length: nothing that counts goes.
func TestCleanOfLongLists(t *testing.T) {
	l := words(8)
	for _, n := range []int{far - 1, far, far + 1, 2 * far, 1000} {
		var long []api.Report
		for len(long) < n {
			long = append(long, fall()[len(long)%len(fall())])
		}
		wantClean(t, slices.Concat(l, long), up(8), l...)
		wantClean(t, slices.Concat(long, l, long), up(8), l...)
	}
}
