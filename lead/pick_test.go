package lead

import (
	"math"
	"math/bits"
	"testing"

	"reef/api"
)

// P16.4

func TestMost(t *testing.T) {
	for n, want := range []int{0, 1, 2, 2, 3, 3, 4, 4, 5, 5} {
		if got := Most(n); got != want {
			t.Errorf("Most(%d): %d; want %d", n, got, want)
		}
	}
	for _, n := range []int{math.MinInt, math.MinInt + 1, -1 << 32, -3, -2, -1, 0} {
		if got := Most(n); got != 0 {
			t.Errorf("Most(%d): %d; want 0", n, got)
		}
	}
	for n, want := range map[int]int{99: 50, 100: 51, 1 << 32: 1<<31 + 1, math.MaxInt - 1: 1 << 62, math.MaxInt: 1 << 62} {
		if got := Most(n); got != want {
			t.Errorf("Most(%d): %d; want %d", n, got, want)
		}
	}
}

// The least number that is more than half: it is, and one less is not.
func TestMostIsTheLeast(t *testing.T) {
	for n := 1; n < 3000; n++ {
		if m := Most(n); 2*m <= n || 2*(m-1) > n {
			t.Errorf("Most(%d): %d", n, m)
		}
	}
}

// P16.9: two sets of Most(n) out of n have one in common; of one less each, if n is more than 1, some have none.
func TestMajoritiesMeet(t *testing.T) {
	for n := 1; n <= 9; n++ {
		sets := func(size int) []uint {
			var l []uint
			for set := range uint(1) << n {
				if bits.OnesCount(set) == size {
					l = append(l, set)
				}
			}
			return l
		}
		most := sets(Most(n))
		if len(most) == 0 {
			t.Errorf("no %d out of %d", Most(n), n)
		}
		for _, a := range most {
			for _, b := range most {
				if a&b == 0 {
					t.Fatalf("out of %d: %b and %b", n, a, b)
				}
			}
		}
	}
}

func TestEnough(t *testing.T) {
	ids := []int{0, 1, 2, 3, 4, 5, 6}
	for n := range ids {
		l := asking(from(ids[:n]...)...)
		for mons, need := range []int{99, 1, 2, 2, 3, 3, 4, 4, 5} {
			wantEnough(t, l, mons, n >= need)
		}
	}
	l := asking(empty(2, 4))
	l = hear(t, l, empty(2, 5), asking(empty(2, 5))) // one that comes again counts once
	wantEnough(t, l, 3, false)
	wantEnough(t, l, 1, true)
	wantEnough(t, asking(from(-1, 70, 1<<40)...), 5, true) // whoever they are
}

func TestEnoughOfNoMonitors(t *testing.T) {
	for _, mons := range []int{math.MinInt, -1 << 32, -5, -2, -1, 0} {
		wantEnough(t, asking(), mons, false)
		wantEnough(t, asking(from(0)...), mons, false)
		wantEnough(t, asking(from(0, 1, 2, 3, 4)...), mons, false)
	}
	wantEnough(t, asking(from(0, 1, 2)...), 1<<40, false)
	wantEnough(t, asking(from(0, 1, 2)...), math.MaxInt, false)
}

func TestEnoughOfWhoDoesNotAsk(t *testing.T) {
	for _, state := range []int{math.MinInt, -1, api.LdNone, api.LdLead, 3, math.MaxInt} {
		wantEnough(t, mixed(state), 3, false)
		wantEnough(t, mixed(state), 1, false)
	}
	wantEnough(t, mixed(api.LdAsk), 5, true)
}

// P16.5

func TestPick(t *testing.T) {
	a, b, c := told(0, 4, bal(1, 0), "a"), told(1, 4, bal(2, 1), "b"), told(2, 5, bal(9, 2), "c")
	wantPick(t, asking(a, b, c), 4, "b", true) // the chapter's
	wantPick(t, asking(a, b, c), 5, "c", true)
	wantPick(t, asking(a, c), 4, "a", true)
	for _, mons := range [][3]int{{0, 1, 2}, {0, 2, 1}, {1, 0, 2}, {1, 2, 0}, {2, 0, 1}, {2, 1, 0}} { // wherever the latest stands
		var l [3]api.Promise
		l[mons[0]], l[mons[1]], l[mons[2]] = told(mons[0], 7, bal(3, 1), "x"), told(mons[1], 7, bal(3, 4), "y"), told(mons[2], 7, bal(4, 0), "z")
		wantPick(t, asking(l[:]...), 7, "z", true)
		l[mons[2]].Count = 8
		wantPick(t, asking(l[:]...), 7, "y", true)
		wantPick(t, asking(l[:]...), 8, "z", true)
	}
	wantPick(t, asking(told(0, 1, bal(1, 4), "x"), told(1, 1, bal(2, 0), "y")), 1, "y", true) // the Round goes first
	wantPick(t, asking(told(0, 1, bal(2, 0), "x"), told(1, 1, bal(1, 4), "y")), 1, "x", true)
}

// Of two alike the one that stands first.
func TestPickOfTwoAlike(t *testing.T) {
	wantPick(t, asking(told(0, 4, bal(2, 1), "a"), told(1, 4, bal(2, 1), "b")), 4, "a", true)
	wantPick(t, asking(told(0, 4, bal(2, 1), "b"), told(1, 4, bal(2, 1), "a"), told(2, 4, bal(1, 4), "c")), 4, "b", true)
	wantPick(t, asking(told(0, 4, bal(1, 4), "c"), told(1, 4, bal(2, 1), "b"), told(3, 4, bal(2, 1), "a")), 4, "b", true)
	wantPick(t, asking(told(0, 5, bal(2, 1), "c"), told(1, 4, bal(2, 1), "b"), told(3, 4, bal(2, 1), "a")), 4, "b", true)
}

func TestPickOfNone(t *testing.T) {
	l := asking(told(0, 4, bal(1, 0), "a"), empty(1, 5), told(3, 6, bal(9, 2), "c"))
	for _, count := range odd() {
		if count != 4 && count != 6 {
			wantPick(t, l, count, "", false) // nobody has that Count, or who has it has no value
		}
		wantPick(t, asking(), count, "", false)
		wantPick(t, asking(empty(0, count), empty(1, count)), count, "", false)
	}
	wantPick(t, api.Leader{}, 0, "", false)
}

// What has no value doesn't count, whatever else it tells.
func TestPickPassesOver(t *testing.T) {
	no := api.Promise{Count: 4, At: bal(9, 9), Value: "no"}
	wantPick(t, asking(no), 4, "", false)
	wantPick(t, asking(no, told(1, 4, bal(1, 0), "a")), 4, "a", true)
	wantPick(t, asking(no, told(1, 5, bal(1, 0), "a")), 4, "", false)
	no.Mon = 2
	wantPick(t, asking(told(1, 4, bal(1, 0), "a"), no), 4, "a", true)
	wantPick(t, asking(told(1, 5, bal(9, 0), "b"), no, told(3, 4, bal(1, 0), "a")), 4, "a", true)
}

// Any ballots, counts and texts; any state.
func TestPickOfOddPromises(t *testing.T) {
	for _, n := range odd() {
		wantPick(t, asking(told(0, n, bal(0, 0), "a")), n, "a", true)
		wantPick(t, asking(told(0, n, bal(math.MinInt64, math.MinInt), "a")), n, "a", true)
		wantPick(t, asking(told(0, n, bal(-3, -3), "")), n, "", true)
		wantPick(t, asking(told(0, n, bal(-3, -3), "a"), told(1, n, bal(-3, -2), "b"), told(2, n, bal(-4, 9), "c")), n, "b", true)
	}
	for _, l := range leaders() {
		l.Promises = []api.Promise{told(-1, -1, bal(math.MaxInt64, 0), "\xff\x00"), told(7, -1, bal(math.MaxInt64, math.MinInt), "x")}
		wantPick(t, l, -1, "\xff\x00", true)
		wantPick(t, l, 0, "", false)
	}
}
