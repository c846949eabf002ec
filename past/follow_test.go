package past

import (
	"math/rand"
	"slices"
	"testing"

	"reef/api"
	"reef/maps"
)

// P14.8

func TestIntervalsFollowOneAnother(t *testing.T) {
	r := rand.New(rand.NewSource(5))
	for range 200 {
		hosts := chanceHosts(r)
		values := chanceValues(r, hosts, 80)
		pg := api.Pg{Pool: r.Intn(2), Num: r.Intn(4)}
		l, history := Intervals(hosts, values, pg), maps.History(hosts, values)
		for i, x := range l {
			if i > 0 && x.First != l[i-1].Last+1 || x.Last < x.First || i == 0 && is(history[x.First-1], pg) {
				t.Fatalf("%+v", l)
			}
			if i > 0 && slices.Equal(x.Acting, l[i-1].Acting) && slices.Equal(x.Boots, l[i-1].Boots) {
				t.Fatalf("%+v: %d is as the one ahead", l, i)
			}
			for e := x.First; e <= x.Last; e++ {
				if !slices.Equal(Acting(history[e], pg), x.Acting) {
					t.Fatalf("%+v: not the acting set of %d", x, e)
				}
			}
		}
		if n := len(l); n > 0 && l[n-1].Last != int64(len(values)) || (n > 0) != is(history[len(values)], pg) {
			t.Fatalf("%+v", l)
		}
	}
}

// wantOneMore asks for intervals behind a value more: whether the last one goes on.
func wantOneMore(t *testing.T, before, behind []api.Interval) bool {
	t.Helper()
	n := len(before)
	if n == 0 {
		if len(behind) > 1 {
			t.Fatalf("%+v, %+v", before, behind)
		}
		return false
	}
	last := before[n-1]
	if len(behind) == n+1 {
		if !alike(behind[:n], before) || behind[n].First != last.Last+1 || behind[n].Last != last.Last+1 || behind[n].May {
			t.Fatalf("%+v, %+v", before, behind)
		}
		return false
	}
	last.Last++
	last.May = len(behind) == n && (last.May || behind[n-1].May) // perhaps it is set
	if len(behind) != n || !alike(behind[:n-1], before[:n-1]) || !alike(behind[n-1:], []api.Interval{last}) {
		t.Fatalf("%+v, %+v", before, behind)
	}
	return true
}

func TestAValueMore(t *testing.T) {
	r := rand.New(rand.NewSource(6))
	on, ended, set := 0, 0, 0
	for range 60 {
		hosts := chanceHosts(r)
		values := chanceValues(r, hosts, 60)
		pg := api.Pg{Pool: r.Intn(2), Num: r.Intn(4)}
		var before []api.Interval
		for n := range len(values) + 1 {
			behind := Intervals(hosts, values[:n], pg)
			if wantOneMore(t, before, behind) {
				on++
				if behind[len(behind)-1].May != before[len(before)-1].May {
					set++
				}
			} else if len(before) > 0 {
				ended++
			}
			before = behind
		}
	}
	if on < 100 || ended < 100 || set < 20 {
		t.Errorf("%d went on, %d ended, %d were set", on, ended, set)
	}
}

// P14.9

func TestActingIsAPartOfRaw(t *testing.T) {
	r := rand.New(rand.NewSource(7))
	fewer := 0
	for range 500 {
		m := chanceMap(r)
		for _, pg := range somePgs() {
			raw, acting := Raw(m, pg), Acting(m, pg)
			at := 0
			for i, id := range acting {
				for at < len(raw) && raw[at] != id {
					at++
				}
				if at == len(raw) || !slices.Contains(maps.Up(m), id) || slices.Contains(acting[:i], id) {
					t.Fatalf("%+v, %+v: %v of %v", m, pg, acting, raw)
				}
			}
			for i, id := range raw {
				if slices.Contains(raw[:i], id) || m.Osds[id].Up != slices.Contains(acting, id) {
					t.Fatalf("%+v, %+v: %v of %v", m, pg, acting, raw)
				}
			}
			if len(acting) < len(raw) {
				fewer++
			}
		}
	}
	if fewer < 100 {
		t.Errorf("of only %d PGs a node is not up", fewer)
	}
}

// P14.10

// noPart tells whether a change has no part in a PG: it moves no weight, and is of no node that the rule chooses for it.
func noPart(m api.Map, pg api.Pg, c api.Inc) bool {
	switch c.Kind {
	case api.IcBan, api.IcPool, api.IcThru:
		return true
	case api.IcBoot, api.IcDown:
		return !slices.Contains(Raw(m, pg), c.Osd)
	}
	return false
}

func TestWhatHasNoPartBeginsNoInterval(t *testing.T) {
	r := rand.New(rand.NewSource(8))
	var met [api.NumIcs]int
	for range 150 {
		hosts := chanceHosts(r)
		values := append(texts(api.Inc{Kind: api.IcPool, Pool: chancePool(r)}), chanceValues(r, hosts, r.Intn(40))...)
		m := maps.At(hosts, values)
		for range 20 {
			c, pg := chanceInc(r, m), pick(r, Pgs(m)...)
			if !noPart(m, pg, c) {
				continue
			}
			if maps.Changes(m, c) {
				met[c.Kind]++
			}
			before, behind := Intervals(hosts, values, pg), Intervals(hosts, append(slices.Clone(values), texts(c)...), pg)
			if !wantOneMore(t, before, behind) {
				t.Fatalf("%+v begins an interval of %+v: %+v", c, pg, behind)
			}
		}
	}
	for _, kind := range []int{api.IcBoot, api.IcDown, api.IcThru, api.IcPool, api.IcBan} {
		if met[kind] < 20 {
			t.Errorf("kind %d: only %d changed anything", kind, met[kind])
		}
	}
}

// With each node on a host of its own, a weight moves nothing of a PG that has not that node, neither before nor behind.
func TestWeightsOfOthersBeginNoInterval(t *testing.T) {
	hosts := []int{5, 3, 0, 1, 7}
	values := texts(pool(2, 1, 8, api.DmHost), boot(0, 1), boot(1, 1), boot(2, 1), boot(3, 1), boot(4, 1))
	stayed := 0
	for num := range 8 {
		pg := api.Pg{Num: num}
		for id := range hosts {
			for _, w := range []int64{0, 1, one / 2, 2 * one, 1 << 20} {
				more := append(slices.Clone(values), texts(weigh(id, w))...)
				a, b := maps.At(hosts, values), maps.At(hosts, more)
				if slices.Contains(Raw(a, pg), id) || slices.Contains(Raw(b, pg), id) {
					continue
				}
				stayed++
				if !wantOneMore(t, Intervals(hosts, values, pg), Intervals(hosts, more, pg)) {
					t.Fatalf("the weight %d of %d begins an interval of %+v", w, id, pg)
				}
			}
		}
	}
	if stayed < 50 {
		t.Errorf("only %d were to stay", stayed)
	}
}

// A node's weight is a part of its host's: it may move a PG that has that node neither before nor behind. There P14.4's words hold.
func TestWeightsThatMoveByTheHost(t *testing.T) {
	hosts, pg := []int{0, 0, 1}, api.Pg{Num: 6}
	values := texts(boot(0, 1), boot(1, 1), boot(2, 1), pool(1, 1, 8, api.DmOsd), weigh(0, 0))
	wantIntervals(t, hosts, values, pg, span(4, 4, false, 1, 1), span(5, 5, false, 2, 1))
}

// What is answered hangs on nothing but what is asked.
func TestAskedAtTheSameTime(t *testing.T) {
	r := rand.New(rand.NewSource(9))
	hosts := []int{0, 1, 2, 3}
	values := append(texts(pool(3, 2, 8, api.DmHost)), chanceValues(r, hosts, 200)...)
	want := Intervals(hosts, values, api.Pg{Num: 3})
	got := make(chan []api.Interval)
	for range 8 {
		go func() { got <- Intervals(hosts, values, api.Pg{Num: 3}) }()
	}
	for range 8 {
		if l := <-got; !alike(l, want) {
			t.Errorf("%+v; want %+v", l, want)
		}
	}
}
