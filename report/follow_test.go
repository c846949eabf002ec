package report

import (
	"fmt"
	"math/rand"
	"slices"
	"testing"

	"reef/api"
	"reef/maps"
)

// chanceMap is a map behind some changes of chance; in half of them all storage nodes were up at first.
func chanceMap(r *rand.Rand) api.Map {
	m := maps.First(make([]int, 1+r.Intn(8)))
	for osd := range m.Osds {
		if r.Intn(2) > 0 {
			m = maps.Apply(m, boot(osd, 1))
		}
	}
	if r.Intn(2) > 0 {
		m = up(1 + r.Intn(8))
	}
	for range r.Intn(12) {
		m = maps.Apply(m, chanceInc(r, m))
	}
	return m
}

// chanceInc is a change, as it may be of use to a map like m: of few kinds of numbers, so that the same come again.
func chanceInc(r *rand.Rand, m api.Map) api.Inc {
	osd := r.Intn(len(m.Osds))
	o := m.Osds[osd]
	switch r.Intn(12) {
	case 0:
		return drop(osd, o.Boot+int64(r.Intn(4)/3))
	case 1, 2, 3:
		return weigh(osd, pick(r, 0, 0, 0, 1, o.Weight, wide))
	case 4:
		return thru(osd, pick(r, o.UpThru+1, m.Epoch, m.Epoch+1))
	case 5:
		return pool(1+r.Intn(2), 1, 1+r.Intn(3), 1)
	case 6:
		return ban(r.Intn(4), 1+r.Int63n(5))
	case 7:
		return api.Inc{Kind: r.Intn(9) - 1, Osd: oddNum(r), Num: int64(r.Intn(3))}
	}
	return boot(osd, o.Boot+int64(r.Intn(4)/3)+int64(r.Intn(2)))
}

// chanceReport is one that mostly counts.
func chanceReport(r *rand.Rand, m api.Map) api.Report {
	c := says(r.Intn(len(m.Osds)), r.Intn(len(m.Osds)), 0)
	c.Boot = m.Osds[c.Osd].Boot
	switch r.Intn(12) {
	case 0:
		c.From = oddNum(r)
	case 1:
		c.Osd = oddNum(r)
	case 2:
		c.Boot += int64(r.Intn(3) - 1)
	}
	return c
}

// countsByWords tells whether a report counts.
func countsByWords(m api.Map, r api.Report) bool {
	from, osd := false, false
	for _, id := range maps.Up(m) {
		from = from || id == r.From
		osd = osd || id == r.Osd && m.Osds[id].Boot == r.Boot
	}
	return from && osd && r.From != r.Osd
}

func cleanByWords(l []api.Report, m api.Map) []api.Report {
	var out []api.Report
	for i, r := range l {
		if countsByWords(m, r) && slices.Index(l, r) == i {
			out = append(out, r)
		}
	}
	return out
}

// enoughByWords tells whether enough unlike nodes say so of one in a list.
func enoughByWords(l []api.Report, m api.Map, osd int) bool {
	var from []int
	for _, r := range l {
		if r.Osd == osd {
			from = append(from, r.From)
		}
	}
	slices.Sort(from)
	need := 2
	if len(maps.Up(m)) < 3 {
		need = 1
	}
	return len(slices.Compact(from)) >= need
}

func failByWords(l []api.Report, m api.Map, r api.Report) ([]api.Report, bool) {
	if !countsByWords(m, r) {
		return cleanByWords(l, m), false
	}
	l = cleanByWords(append(slices.Clone(l), r), m)
	return l, enoughByWords(l, m, r.Osd)
}

func downByWords(l []api.Report, m api.Map) []int {
	var out []int
	for osd := range m.Osds {
		if enoughByWords(cleanByWords(l, m), m, osd) {
			out = append(out, osd)
		}
	}
	return out
}

// P17.5 to P17.7 of lists of chance; P17.8, P17.9

func TestReportsOfChance(t *testing.T) {
	r := rand.New(rand.NewSource(5))
	yes, long := 0, 0
	for range 2000 {
		m := chanceMap(r)
		var l []api.Report
		for range pick(r, 0, 3, 10, 40, far-1, far, far+1, 200) {
			l = append(l, chanceReport(r, m))
		}
		wantClean(t, l, m, cleanByWords(l, m)...)
		wantDown(t, l, m, downByWords(l, m)...)
		c := chanceReport(r, m)
		want, ok := failByWords(l, m, c)
		got := wantFail(t, l, m, c, ok, want...)
		wantClean(t, got, m, got...) // once more changes nothing
		if ok && !slices.Contains(Down(got, m), c.Osd) {
			t.Fatalf("%d is not down by %v, %+v", c.Osd, got, m)
		}
		if ok {
			yes++
		}
		if len(got) > 40 {
			long++
		}
	}
	if yes < 300 || long < 5 {
		t.Error(yes, long)
	}
}

// P17.8, P17.9: a list that is kept along a row of changes, as a monitor does.
func TestAListThatIsKept(t *testing.T) {
	r := rand.New(rand.NewSource(8))
	yes, gone := 0, 0
	for range 200 {
		m := chanceMap(r)
		var l []api.Report
		for range 100 {
			c := chanceReport(r, m)
			want, ok := failByWords(l, m, c)
			l = wantFail(t, l, m, c, ok, want...)
			wantDown(t, l, m, downByWords(l, m)...)
			if !ok && r.Intn(6) > 0 {
				continue
			}
			if ok {
				yes++
			}
			next := drop(c.Osd, c.Boot)
			if !ok {
				next = chanceInc(r, m)
			}
			was := len(l)
			m = maps.Apply(m, next)
			wantClean(t, l, m, cleanByWords(l, m)...)
			l = Clean(l, m)
			gone += was - len(l)
			for _, x := range l {
				if ok && (x.From == next.Osd || x.Osd == next.Osd) {
					t.Fatalf("%v counts behind %+v", x, next)
				}
			}
		}
	}
	if yes < 500 || gone < 500 {
		t.Error(yes, gone)
	}
}

// P17.9: behind the change IcDown of a node nothing that was said of it, or by it, counts; all else does.
func TestNothingCountsBehindDown(t *testing.T) {
	for n := 2; n <= 8; n++ {
		for osd := range n {
			m, l := up(n), words(n)
			m = maps.Apply(m, drop(osd, int64(10+osd)))
			rest := slices.DeleteFunc(slices.Clone(l), func(r api.Report) bool { return r.From == osd || r.Osd == osd })
			wantClean(t, l, m, rest...)
			m = maps.Apply(m, boot(osd, int64(11+osd))) // it is up again: what it says counts, what was said of it ahead does not
			rest = slices.DeleteFunc(slices.Clone(l), func(r api.Report) bool { return r.Osd == osd })
			wantClean(t, l, m, rest...)
		}
	}
}

// P17.10; P17.2 and P17.3 of lists that are built along a row of changes.
func TestQueuesOfChance(t *testing.T) {
	r := rand.New(rand.NewSource(10))
	adds, full, firsts := 0, 0, 0
	for range 150 {
		m := chanceMap(r)
		var l []api.Inc
		for range 80 {
			c := chanceInc(r, m)
			ok := len(l) < room && !slices.Contains(l, c) && usefulByWords(m, c)
			l = wantAdd(t, l, m, c, ok)
			if ok {
				adds++
			}
			if len(l) == room {
				full++
			}
			for i := range l {
				if slices.Index(l, l[i]) != i {
					t.Fatalf("twice: %+v", l)
				}
			}
			wantFirst(t, l, m, slices.IndexFunc(l, func(c api.Inc) bool { return usefulByWords(m, c) }))
			if r.Intn(5) > 0 {
				continue
			}
			if next, rest, is := First(l, m); is {
				firsts++
				if !Useful(m, next) {
					t.Fatalf("%+v is of no use to %+v", next, m)
				}
				m = maps.Apply(m, next)
				if r.Intn(3) == 0 {
					l = rest
				}
			}
		}
	}
	if adds < 1500 || full < 200 || firsts < 1000 {
		t.Error(adds, full, firsts)
	}
}

// What is answered hangs on nothing but what is asked.
func TestAskedAtTheSameTime(t *testing.T) {
	m, l := mixed(), slices.Concat(fall(), stand(), stand())
	queue := []api.Inc{boot(0, 3), drop(0, 3)}
	got := make(chan string)
	for range 8 {
		go func() {
			next, ok := Fail(l, m, says(3, 4, 1))
			c, rest, is := First(queue, m)
			more, added := Add(queue, m, ban(2, 2))
			got <- fmt.Sprint(next, ok, c, rest, is, more, added, Down(l, m), Clean(l, m), Need(m))
		}()
	}
	want := fmt.Sprint(append(stand(), says(3, 4, 1)), true, drop(0, 3), []api.Inc{}, true, append(slices.Clone(queue), ban(2, 2)), true, []int{0, 3}, stand(), 2)
	for range 8 {
		if s := <-got; s != want {
			t.Errorf("%s; want %s", s, want)
		}
	}
}

// oddMap is a map that is not fit.
func oddMap(r *rand.Rand) api.Map {
	m := api.Map{Epoch: int64(oddNum(r))}
	for range r.Intn(12) {
		m.Osds = append(m.Osds, api.Osd{Boot: int64(oddNum(r)), Up: r.Intn(2) == 0, Weight: int64(oddNum(r)), UpThru: int64(oddNum(r))})
	}
	for range r.Intn(12) {
		m.Hosts = append(m.Hosts, oddNum(r))
		m.Pools = append(m.Pools, api.Pool{Size: oddNum(r), PGs: oddNum(r)})
		m.Bans = append(m.Bans, api.Ban{Client: oddNum(r), Inst: int64(oddNum(r))})
	}
	return m
}

// 0.1: of a map that is not fit nothing is promised, but that each call ends and none panics.
func TestUnfitMaps(t *testing.T) {
	r := rand.New(rand.NewSource(1))
	for range 3000 {
		m := oddMap(r)
		var l []api.Report
		var queue []api.Inc
		for range r.Intn(90) {
			l = append(l, says(oddNum(r), oddNum(r), int64(oddNum(r))))
			queue = append(queue, api.Inc{Kind: r.Intn(8), Osd: oddNum(r), Client: oddNum(r), Num: int64(oddNum(r))})
		}
		lin, in, stays := handedReports(t, l, m)
		got, _ := Fail(lin, in, says(oddNum(r), oddNum(r), int64(oddNum(r))))
		spoil(got, says(1, 1, 1))
		spoil(Clean(lin, in), says(1, 1, 1))
		spoil(Down(lin, in), 1)
		Need(in)
		stays()
		qin, in, stays := handedIncs(t, queue, m)
		more, _ := Add(qin[:min(9, len(qin))], in, weigh(oddNum(r), 0))
		spoil(more, ban(1, 1))
		_, rest, _ := First(qin, in)
		spoil(rest, ban(1, 1))
		stays()
	}
}

// Long lists take no long time.
func TestLongLists(t *testing.T) {
	m := up(8)
	l := slices.Repeat(words(8), 2000)
	wantClean(t, l, m, words(8)...)
	wantFail(t, l, m, of(1, 2), true, words(8)...)
	wantDown(t, l, m, 0, 1, 2, 3, 4, 5, 6, 7)
	wantFirst(t, append(slices.Repeat([]api.Inc{boot(0, 3)}, 100000), boot(0, 20)), m, 100000)
}
