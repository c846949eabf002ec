package past

import (
	"fmt"
	"math/rand"
	"slices"
	"testing"

	"reef/api"
	"reef/maps"
)

// span is an interval, its members given as pairs of a node and its boot number.
func span(first, last int64, may bool, pairs ...int64) api.Interval {
	x := api.Interval{First: first, Last: last, May: may}
	for i := 0; i < len(pairs); i += 2 {
		x.Acting, x.Boots = append(x.Acting, int(pairs[i])), append(x.Boots, pairs[i+1])
	}
	return x
}

// alike holds intervals against each other by what they say; nil and empty lists say the same.
func alike(a, b []api.Interval) bool { return fmt.Sprintf("%+v", a) == fmt.Sprintf("%+v", b) }

// wantIntervals asks for a PG's intervals, each in memory of its own, and for the First of the last one.
func wantIntervals(t *testing.T, hosts []int, values []string, pg api.Pg, want ...api.Interval) {
	t.Helper()
	in, row := spare(hosts, 5), spare(values, maps.Encode(boot(0, 99)))
	l := Intervals(in, row, pg)
	if !alike(l, want) {
		t.Fatalf("Intervals(%v, %q, %+v):\n%+v; want\n%+v", hosts, values, pg, l, want)
	}
	for i, x := range l {
		fill(x.Acting, -9)
		fill(x.Boots, -9)
		if next := min(i+3, len(l)); !alike(l[i+1:next], want[i+1:next]) {
			t.Fatalf("the intervals %d and others share their memory", i)
		}
	}
	var start int64
	if n := len(want); n > 0 {
		start = want[n-1].First
	}
	if got := Start(in, row, pg); got != start {
		t.Fatalf("Start(%v, %q, %+v): %d; want %d", hosts, values, pg, got, start)
	}
	if !slices.Equal(in[:len(in)+3], spare(hosts, 5)[:len(hosts)+3]) || !slices.Equal(row[:len(row)+3], spare(values, maps.Encode(boot(0, 99)))[:len(values)+3]) {
		t.Fatalf("what went in is %v, %q", in, row)
	}
}

// P14.4, P14.5

// The values of the document's first examples, up to the crash of storage node 0.
func TestIntervalsOfTheExamples(t *testing.T) {
	hosts := []int{0, 1}
	values := texts(boot(0, 1), boot(1, 1), pool(2, 1, 2, api.DmOsd), thru(0, 3), thru(1, 3))
	wantIntervals(t, hosts, values, api.Pg{Num: 0}, span(3, 5, true, 0, 1, 1, 1))
	wantIntervals(t, hosts, values, api.Pg{Num: 1}, span(3, 5, true, 1, 1, 0, 1))
	values = append(values, texts(down(0, 1), thru(1, 6))...)
	wantIntervals(t, hosts, values, api.Pg{Num: 0}, span(3, 5, true, 0, 1, 1, 1), span(6, 7, true, 1, 1))
	wantIntervals(t, hosts, values, api.Pg{Num: 1}, span(3, 5, true, 1, 1, 0, 1), span(6, 7, true, 1, 1))
	values = append(values, texts(boot(0, 2))...)
	wantIntervals(t, hosts, values, api.Pg{Num: 0}, span(3, 5, true, 0, 1, 1, 1), span(6, 7, true, 1, 1), span(8, 8, false, 0, 2, 1, 1))
	wantIntervals(t, hosts, values, api.Pg{Num: 1}, span(3, 5, true, 1, 1, 0, 1), span(6, 7, true, 1, 1), span(8, 8, false, 1, 1, 0, 2))
}

// The chapter's first example: an interval without members, and one more each time that a member comes.
func TestIntervalsOfNodesThatComeUp(t *testing.T) {
	hosts := []int{0, 1, 2}
	values := texts(pool(3, 1, 1, api.DmHost))
	wantIntervals(t, hosts, values, api.Pg{}, span(1, 1, false))
	raw := Raw(maps.At(hosts, values), api.Pg{})
	want := []api.Interval{span(1, 1, false)}
	var pairs []int64
	for i, id := range raw {
		values = append(values, texts(boot(id, 7))...)
		pairs = append(pairs, int64(id), 7)
		want = append(want, span(int64(i+2), int64(i+2), false, pairs...))
		wantIntervals(t, hosts, values, api.Pg{}, want...)
	}
	values = append(values, texts(ban(0, 1), ban(0, 1))...) // the last one goes on
	want[3].Last = 6
	wantIntervals(t, hosts, values, api.Pg{}, want...)
}

func TestIntervalsOfNoPg(t *testing.T) {
	hosts, values := []int{0, 1}, texts(boot(0, 1), pool(2, 1, 3, api.DmOsd), thru(0, 2))
	for _, pool := range odd() {
		for _, num := range odd() {
			if pool != 0 || num < 0 || num > 2 {
				wantIntervals(t, hosts, values, api.Pg{Pool: pool, Num: num})
			}
		}
	}
	wantIntervals(t, hosts, nil, api.Pg{})
	wantIntervals(t, hosts, texts(boot(0, 1), boot(1, 1)), api.Pg{})
	wantIntervals(t, hosts, noTexts(), api.Pg{})
}

func TestIntervalsOfHostsThatAreNone(t *testing.T) {
	for _, hosts := range noHosts() {
		wantIntervals(t, hosts, nil, api.Pg{})
		wantIntervals(t, hosts, texts(pool(1, 1, 1, 1), boot(0, 1)), api.Pg{})
	}
}

// A pool that comes later has no intervals ahead of it.
func TestIntervalsOfALaterPool(t *testing.T) {
	hosts := []int{3}
	values := texts(boot(0, 1), boot(0, 2), pool(1, 1, 1, api.DmHost), boot(0, 3), thru(0, 4), pool(1, 1, 2, api.DmOsd), boot(0, 4), pool(1, 1, 8, api.DmOsd))
	wantIntervals(t, hosts, values[:2], api.Pg{})
	wantIntervals(t, hosts, values[:3], api.Pg{}, span(3, 3, false, 0, 2))
	wantIntervals(t, hosts, values[:5], api.Pg{Pool: 1})
	wantIntervals(t, hosts, values[:6], api.Pg{Pool: 1}, span(6, 6, false, 0, 3))
	wantIntervals(t, hosts, values, api.Pg{}, span(3, 3, false, 0, 2), span(4, 6, true, 0, 3), span(7, 8, false, 0, 4))
	wantIntervals(t, hosts, values, api.Pg{Pool: 1, Num: 1}, span(6, 6, false, 0, 3), span(7, 8, false, 0, 4))
	wantIntervals(t, hosts, values, api.Pg{Pool: 1, Num: 2}) // the third pool is one too many
	wantIntervals(t, hosts, values, api.Pg{Pool: 2})
	wantIntervals(t, hosts, texts(pool(1, 1, 1, api.DmHost)), api.Pg{}, span(1, 1, false))
}

// The epoch goes on, and nothing else.
func TestIntervalsOfValuesThatChangeNothing(t *testing.T) {
	hosts := []int{0, 1}
	values := append(noTexts(), texts(pool(2, 2, 1, api.DmOsd), boot(0, 1), boot(1, 1))...)
	first := int64(len(noTexts()) + 1)
	raw := Raw(maps.At(hosts, values), api.Pg{})
	a, b := int64(raw[0]), int64(raw[1])
	want := []api.Interval{span(first, first, false), span(first+1, first+1, false, 0, 1), span(first+2, first+2, false, a, 1, b, 1)}
	wantIntervals(t, hosts, values, api.Pg{}, want...)
	nothing := texts(boot(0, 1), boot(5, 1), down(1, 2), weigh(0, one), thru(0, 1000), thru(7, 1), weigh(6, 0), down(6, 1))
	for _, v := range append(noTexts(), nothing...) {
		values = append(values, v)
		want[2].Last++
		wantIntervals(t, hosts, values, api.Pg{}, want...)
	}
}

func TestIntervalsOfFewerThanMin(t *testing.T) {
	hosts := []int{0, 1}
	values := texts(pool(2, 2, 1, api.DmOsd), boot(0, 1), thru(0, 2), thru(0, 3), boot(1, 1))
	wantIntervals(t, hosts, values[:4], api.Pg{}, span(1, 1, false), span(2, 4, false, 0, 1))
	values[0] = texts(pool(2, 1, 1, api.DmOsd))[0]
	wantIntervals(t, hosts, values[:4], api.Pg{}, span(1, 1, false), span(2, 4, true, 0, 1))
	raw := Raw(maps.At(hosts, values), api.Pg{})
	a, b := int64(raw[0]), int64(raw[1])
	values[0] = texts(pool(2, 2, 1, api.DmOsd))[0]
	values = append(values, texts(thru(raw[1], 5), thru(raw[0], 5))...)
	l := []api.Interval{span(1, 1, false), span(2, 4, false, 0, 1), span(5, 6, false, a, 1, b, 1)}
	wantIntervals(t, hosts, values[:6], api.Pg{}, l...) // the other one's UpThru plays no part
	l[2] = span(5, 7, true, a, 1, b, 1)
	wantIntervals(t, hosts, values, api.Pg{}, l...) // as many as Min
	wantIntervals(t, []int{0}, texts(pool(1, 1, 1, 1), ban(0, 1)), api.Pg{}, span(1, 2, false))
}

// UpThru just below First, at it and behind it.
func TestIntervalsByUpThru(t *testing.T) {
	hosts := []int{0}
	for told, may := range map[int64]bool{1: false, 2: false, 3: false, 4: true, 5: true, 6: true} {
		values := texts(boot(0, 1), pool(1, 1, 1, 1), ban(0, 1), boot(0, 2), ban(0, 2), ban(0, 3), thru(0, told))
		wantIntervals(t, hosts, values, api.Pg{}, span(2, 3, false, 0, 1), span(4, 7, may, 0, 2))
		values = append(values, texts(boot(0, 3))...)
		wantIntervals(t, hosts, values, api.Pg{}, span(2, 3, false, 0, 1), span(4, 7, may, 0, 2), span(8, 8, false, 0, 3))
	}
}

// What is told in a later interval tells nothing of an earlier one, whose last map did not have it.
func TestIntervalsByUpThruThatIsToldTooLate(t *testing.T) {
	hosts := []int{0, 1}
	values := texts(pool(2, 1, 1, api.DmOsd), boot(0, 1), boot(1, 1), thru(0, 2), thru(1, 2), down(1, 1), thru(0, 3), thru(0, 6))
	raw := Raw(maps.At(hosts, values), api.Pg{})
	a, b := int64(raw[0]), int64(raw[1])
	l := []api.Interval{span(1, 1, false), span(2, 2, false, 0, 1), span(3, 5, false, a, 1, b, 1), span(6, 7, false, 0, 1)}
	wantIntervals(t, hosts, values[:7], api.Pg{}, l...)
	l[3] = span(6, 8, true, 0, 1)
	wantIntervals(t, hosts, values, api.Pg{}, l...)
}

// The same members, one of which has started anew without having been down.
func TestIntervalsOfBootNumbers(t *testing.T) {
	hosts := []int{0, 1}
	values := texts(boot(0, 1), boot(1, 1), pool(2, 1, 2, api.DmOsd), boot(1, 5), boot(1, 5), boot(1, 4), down(1, 1), boot(0, 2), boot(1, 6), down(0, 2), boot(0, 3))
	wantIntervals(t, hosts, values, api.Pg{},
		span(3, 3, false, 0, 1, 1, 1), span(4, 7, false, 0, 1, 1, 5), span(8, 8, false, 0, 2, 1, 5),
		span(9, 9, false, 0, 2, 1, 6), span(10, 10, false, 1, 6), span(11, 11, false, 0, 3, 1, 6))
}

// Other weights begin an interval where they move the PG, and none where they do not.
func TestIntervalsOfWeights(t *testing.T) {
	hosts := []int{0, 1}
	values := texts(boot(0, 1), boot(1, 1), pool(1, 1, 1, api.DmOsd), weigh(0, 0), weigh(1, 5), weigh(0, 0), weigh(1, 0), weigh(0, one), weigh(1, 1))
	m := maps.At(hosts, values[:3])
	a := int64(Raw(m, api.Pg{})[0])
	if a != 0 {
		t.Fatal("of another beginning this test tells nothing")
	}
	wantIntervals(t, hosts, values, api.Pg{}, span(3, 3, false, 0, 1), span(4, 6, false, 1, 1), span(7, 7, false), span(8, 9, false, 0, 1))
}

// A weight that moves the PG and goes back brings back the members, not the interval.
func TestIntervalsThatComeAgain(t *testing.T) {
	values := texts(boot(0, 1), boot(1, 1), pool(1, 1, 1, api.DmOsd), thru(0, 3), weigh(0, 0), weigh(0, one), thru(1, 5))
	wantIntervals(t, []int{0, 1}, values, api.Pg{}, span(3, 4, true, 0, 1), span(5, 5, false, 1, 1), span(6, 7, false, 0, 1))
}

func TestIntervalsByWords(t *testing.T) {
	r := rand.New(rand.NewSource(3))
	may, all := 0, 0
	for range 120 {
		hosts := chanceHosts(r)
		values := chanceValues(r, hosts, r.Intn(90))
		if r.Intn(3) > 0 {
			values = append(texts(api.Inc{Kind: api.IcPool, Pool: chancePool(r)}), values...)
		}
		for range 4 {
			pg := pick(r, somePgs()...)
			want := intervalsByWords(hosts, values, pg)
			wantIntervals(t, hosts, values, pg, want...)
			for _, x := range want {
				all++
				if x.May {
					may++
				}
			}
		}
	}
	if may < 100 || all-may < 100 {
		t.Errorf("of %d intervals %d may have been active", all, may)
	}
}

// Values beyond the 4096th play no part.
func TestIntervalsOfManyValues(t *testing.T) {
	hosts := []int{0}
	values := texts(boot(0, 1), pool(1, 1, 1, 1))
	for len(values) < 4094 {
		values = append(values, "")
	}
	values = append(values, texts(thru(0, 2), boot(0, 2), boot(0, 3), boot(0, 4))...)
	wantIntervals(t, hosts, values[:4094], api.Pg{}, span(2, 4094, false, 0, 1))
	wantIntervals(t, hosts, values[:4095], api.Pg{}, span(2, 4095, true, 0, 1))
	for n := 4096; n <= len(values); n++ {
		wantIntervals(t, hosts, values[:n], api.Pg{}, span(2, 4095, true, 0, 1), span(4096, 4096, false, 0, 2))
	}
	row := texts(pool(1, 1, 1, 1))
	want := []api.Interval{span(1, 1, false)}
	for n := int64(2); n <= end; n++ {
		row, want = append(row, texts(boot(0, n))...), append(want, span(n, n, false, 0, n))
	}
	wantIntervals(t, hosts, row, api.Pg{}, want...)
}

func TestEpochsAreLeft(t *testing.T) {
	history := maps.History([]int{0}, texts(pool(1, 1, 1, 1), boot(0, 1), boot(0, 2)))
	for n := 1; n < 4; n++ {
		seen := 0
		for range epochs(history[1:], api.Pg{}) {
			if seen++; seen == n {
				break
			}
		}
		if seen != n {
			t.Errorf("%d epochs; want %d", seen, n)
		}
	}
}
