package past

import (
	"fmt"
	"math"
	"math/rand"
	"slices"
	"testing"

	"reef/api"
)

// P14.6

// wantAsk asks for whom the primary must hear, each row in memory of its own.
func wantAsk(t *testing.T, l []api.Interval, up []int, want ...[]int) {
	t.Helper()
	in, ids := spare(l, span(1, 1, true, 0, 1)), spare(up, 5)
	for i := range in {
		in[i].Acting = spare(l[i].Acting, 0)
	}
	was := fmt.Sprint(in[:len(in)+3], ids[:len(ids)+3])
	got := Ask(in, ids)
	if len(got) != len(want) || fmt.Sprint(got) != fmt.Sprint(want) {
		t.Fatalf("Ask(%+v, %v): %v; want %v", l, up, got, want)
	}
	for i, row := range got {
		fill(row, -9)
		if fmt.Sprint(got[i+1:]) != fmt.Sprint(want[i+1:]) {
			t.Fatalf("the row %d and others share their memory", i)
		}
	}
	if is := fmt.Sprint(in[:len(in)+3], ids[:len(ids)+3]); is != was {
		t.Fatalf("what went in is %s; want %s", is, was)
	}
}

func TestAsk(t *testing.T) {
	a, b, c := span(1, 2, true, 0, 1, 1, 1), span(3, 4, true, 2, 1, 1, 1, 0, 1), span(5, 9, true, 3, 1)
	no := span(3, 4, false, 0, 1, 1, 1, 2, 1)
	all := []int{0, 1, 2, 3}
	wantAsk(t, []api.Interval{a, b, c}, all, []int{2, 1, 0}, []int{0, 1}) // the latest first, and not the last one
	wantAsk(t, []api.Interval{a, b, c}, []int{3, 1}, []int{1}, []int{1})
	wantAsk(t, []api.Interval{a, b, c}, []int{3, 2}, []int{2}, nil) // nobody that is up is a row too
	wantAsk(t, []api.Interval{a, b, c}, nil, nil, nil)
	wantAsk(t, []api.Interval{a, b, c}, []int{1, 0}, []int{1, 0}, []int{0, 1}) // in Acting's order
	wantAsk(t, []api.Interval{a, no, c}, all, []int{0, 1})
	wantAsk(t, []api.Interval{no, a, no, no, b, no, c}, all, []int{2, 1, 0}, []int{0, 1})
	wantAsk(t, []api.Interval{c, a, b, no}, all, []int{2, 1, 0}, []int{0, 1}, []int{3})
}

func TestAskOfNone(t *testing.T) {
	may, not := span(1, 2, true, 0, 1), span(1, 2, false, 0, 1)
	wantAsk(t, nil, nil)
	wantAsk(t, nil, []int{0})
	wantAsk(t, []api.Interval{may}, []int{0})
	wantAsk(t, []api.Interval{not}, []int{0})
	wantAsk(t, []api.Interval{not, may}, []int{0})
	wantAsk(t, []api.Interval{not, not, not}, []int{0})
	wantAsk(t, []api.Interval{may, not}, []int{0}, []int{0})
}

// Any intervals, any numbers: the words are gone by all the same.
func TestAskOfOddIntervals(t *testing.T) {
	odds := span(-5, -9, true, math.MinInt64, 0, -1, 1, 7, 2, 7, 3, math.MaxInt64, 4, -1, 5)
	empty := api.Interval{May: true}
	wantAsk(t, []api.Interval{odds, empty, empty}, []int{math.MaxInt, 7, 7, 7, -1}, nil, []int{-1, 7, 7, math.MaxInt, -1})
	wantAsk(t, []api.Interval{odds, empty}, []int{8, 9, 1 << 40, -2}, nil)
	wantAsk(t, []api.Interval{odds, empty}, []int{math.MinInt, 8, 9, 1 << 40, -2}, []int{math.MinInt})
	wantAsk(t, []api.Interval{odds, odds, odds}, odd(), odds.Acting, odds.Acting)
}

func TestAskByWords(t *testing.T) {
	r := rand.New(rand.NewSource(4))
	ids := func(n int) []int {
		l := make([]int, r.Intn(n))
		for i := range l {
			l[i] = pick(r, 0, 1, 2, 3, 4, 5, 6, 7, -1, 8)
		}
		return l
	}
	for range 2000 {
		l := make([]api.Interval, r.Intn(7))
		for i := range l {
			l[i] = api.Interval{First: r.Int63n(9), Last: r.Int63n(9), Acting: ids(5), May: r.Intn(2) == 0}
		}
		up := ids(9)
		var want [][]int
		for i := len(l) - 2; i >= 0; i-- {
			if !l[i].May {
				continue
			}
			row := slices.DeleteFunc(slices.Clone(l[i].Acting), func(id int) bool { return !slices.Contains(up, id) })
			want = append(want, row)
		}
		wantAsk(t, l, up, want...)
	}
}

// Many numbers take no long time.
func TestAskOfMany(t *testing.T) {
	var many []int
	for i := range 200000 {
		many = append(many, i)
	}
	x := api.Interval{Acting: many, May: true}
	slices.Reverse(x.Acting)
	l := Ask([]api.Interval{x, x}, many)
	if len(l) != 1 || !slices.Equal(l[0], x.Acting) {
		t.Error("not all are asked")
	}
}
