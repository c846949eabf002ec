package report

import (
	"fmt"
	"math"
	"math/rand"
	"slices"
	"testing"

	"reef/api"
)

// The chapters' bounds.
const (
	unit = 65536   // a weight of one
	wide = 1 << 20 // the greatest weight
	last = 1 << 30 // the last boot number, instance, and epoch that a change may name
	end  = 4096    // a map's last epoch
	room = 16      // changes that wait
	far  = 64      // reports that are kept
)

func boot(osd int, n int64) api.Inc   { return api.Inc{Kind: 1, Osd: osd, Num: n} }
func drop(osd int, n int64) api.Inc   { return api.Inc{Kind: 2, Osd: osd, Num: n} }
func weigh(osd int, n int64) api.Inc  { return api.Inc{Kind: 3, Osd: osd, Num: n} }
func thru(osd int, n int64) api.Inc   { return api.Inc{Kind: 4, Osd: osd, Num: n} }
func ban(client int, n int64) api.Inc { return api.Inc{Kind: 6, Client: client, Num: n} }

func pool(size, min, pgs, domain int) api.Inc {
	return api.Inc{Kind: 5, Pool: api.Pool{Size: size, Min: min, PGs: pgs, Domain: domain}}
}

// says is a storage node's word that another one, with its boot number, is down.
func says(from, osd int, boot int64) api.Report { return api.Report{From: from, Osd: osd, Boot: boot} }

// up is so many storage nodes, all of them up with a boot number that is 10 above their own.
func up(n int) api.Map {
	m := api.Map{Epoch: int64(n)}
	for osd := range n {
		m.Hosts = append(m.Hosts, osd%8)
		m.Osds = append(m.Osds, api.Osd{Boot: int64(10 + osd), Up: true, Weight: unit})
	}
	return m
}

// of is the word of one storage node of up about another one.
func of(from, osd int) api.Report { return says(from, osd, int64(10+osd)) }

// words is all words that there may be of so many storage nodes of up.
func words(n int) []api.Report {
	var l []api.Report
	for osd := range n {
		for from := range n {
			if from != osd {
				l = append(l, of(from, osd))
			}
		}
	}
	return l
}

// mixed is six storage nodes in unlike states, of which 0, 3, 4 and 5 are up, a pool and some bans, at epoch 9.
func mixed() api.Map {
	return api.Map{
		Epoch: 9,
		Hosts: []int{3, 0, 3, 7, 1, 1},
		Osds: []api.Osd{
			{Boot: 3, Up: true, Weight: unit, UpThru: 8}, {}, {Boot: 5, Weight: 1, UpThru: 2},
			{Boot: last, Up: true, Weight: wide}, {Boot: 1, Up: true}, {Boot: 3, Up: true, Weight: unit, UpThru: 9},
		},
		Pools: []api.Pool{{Size: 3, Min: 2, PGs: 8, Domain: 2}},
		Bans:  []api.Ban{{Client: 0, Inst: 7}, {Client: 1, Inst: 2}, {Client: 3, Inst: last}},
	}
}

// with is a map that was changed by hand.
func with(m api.Map, change func(m *api.Map)) api.Map {
	m.Hosts, m.Osds = slices.Clone(m.Hosts), slices.Clone(m.Osds)
	m.Pools, m.Bans = slices.Clone(m.Pools), slices.Clone(m.Bans)
	change(&m)
	return m
}

// but is a map in which these storage nodes are not up.
func but(m api.Map, osds ...int) api.Map {
	return with(m, func(m *api.Map) {
		for _, osd := range osds {
			m.Osds[osd].Up = false
		}
	})
}

// odd is numbers near a bound of any kind.
func odd() []int64 {
	return []int64{
		math.MinInt64, math.MinInt64 + 1, -1 << 32, -1 << 31, -2, -1, 0, 1, 2, 3, 4, 5, 6, 7, 8, 9, 63, 64, 65, end, end + 1,
		unit, wide, wide + 1, last - 1, last, last + 1, 1 << 31, 1 << 32, 1<<32 + 1, 1<<32 + 3, math.MaxInt64 - 1, math.MaxInt64,
	}
}

// pick is one of some things.
func pick[T any](r *rand.Rand, l ...T) T { return l[r.Intn(len(l))] }

// oddNum is a number that mostly is none.
func oddNum(r *rand.Rand) int { return int(pick(r, odd()...)) }

// roomy is a list with spare room, in which something stands.
func roomy[T any](l []T, x T) []T { return append(slices.Clone(l), x, x, x)[:len(l)] }

// spoil lays something over a list and its spare room.
func spoil[T any](l []T, x T) {
	l = l[:cap(l)]
	for i := range l {
		l[i] = x
	}
}

// whole is all of some lists in a line, with what stands in their spare room.
func whole[T any](m api.Map, l []T) string {
	m.Hosts, m.Osds = m.Hosts[:cap(m.Hosts)], m.Osds[:cap(m.Osds)]
	m.Pools, m.Bans = m.Pools[:cap(m.Pools)], m.Bans[:cap(m.Bans)]
	return fmt.Sprint(m, l[:cap(l)])
}

// handed is a list and a map with spare room, and a question whether they are what they were.
func handed[T any](t *testing.T, l []T, x T, m api.Map) ([]T, api.Map, func()) {
	l = roomy(l, x)
	m.Hosts, m.Osds = roomy(m.Hosts, 5), roomy(m.Osds, api.Osd{Boot: 5, Up: true, Weight: 5})
	m.Pools, m.Bans = roomy(m.Pools, api.Pool{Size: 5}), roomy(m.Bans, api.Ban{Inst: 5})
	was := whole(m, l)
	return l, m, func() {
		t.Helper()
		if is := whole(m, l); is != was {
			t.Fatalf("what went in is %s; it was %s", is, was)
		}
	}
}

// handedIncs is changes and a map that are handed in: a change that would be useful stands behind them.
func handedIncs(t *testing.T, l []api.Inc, m api.Map) ([]api.Inc, api.Map, func()) {
	return handed(t, l, weigh(0, 77), m)
}

// handedReports is likewise of reports: one that would count stands behind them.
func handedReports(t *testing.T, l []api.Report, m api.Map) ([]api.Report, api.Map, func()) {
	return handed(t, l, of(1, 0), m)
}

// out is a list that came out, in memory of its own; the one that came out is written over.
func out[T any](l []T, x T) []T {
	own := slices.Clone(l)
	spoil(l, x)
	return own
}

func wantUseful(t *testing.T, m api.Map, is bool, l ...api.Inc) {
	t.Helper()
	for _, c := range l {
		_, in, stays := handedIncs(t, nil, m)
		if Useful(in, c) != is {
			t.Errorf("Useful(%+v, %+v): %v", m, c, !is)
		}
		stays()
	}
}

// wantAdd asks for a change that is added, or is not.
func wantAdd(t *testing.T, l []api.Inc, m api.Map, c api.Inc, ok bool) []api.Inc {
	t.Helper()
	want := slices.Clone(l)
	if ok {
		want = append(want, c)
	}
	lin, min, stays := handedIncs(t, l, m)
	got, is := Add(lin, min, c)
	if is != ok || !slices.Equal(got, want) {
		t.Fatalf("Add(%+v, %+v, %+v): %+v, %v; want %+v", l, m, c, got, is, want)
	}
	got = out(got, ban(3, 99))
	stays()
	return got
}

// wantFirst asks for the change that stands at a place; -1: for none.
func wantFirst(t *testing.T, l []api.Inc, m api.Map, at int) {
	t.Helper()
	var want api.Inc
	var rest []api.Inc
	if at >= 0 {
		want, rest = l[at], l[at+1:]
	}
	lin, min, stays := handedIncs(t, l, m)
	c, got, ok := First(lin, min)
	if c != want || ok != (at >= 0) || !slices.Equal(got, rest) {
		t.Fatalf("First(%+v, %+v): %+v, %+v, %v; want the place %d", l, m, c, got, ok, at)
	}
	spoil(got, ban(3, 99))
	stays()
}

func wantNeed(t *testing.T, m api.Map, n int) {
	t.Helper()
	_, in, stays := handedReports(t, nil, m)
	if got := Need(in); got != n {
		t.Errorf("Need(%+v): %d; want %d", m, got, n)
	}
	stays()
}

func wantClean(t *testing.T, l []api.Report, m api.Map, want ...api.Report) {
	t.Helper()
	lin, min, stays := handedReports(t, l, m)
	got := Clean(lin, min)
	if !slices.Equal(got, want) {
		t.Fatalf("Clean(%v, %+v): %v; want %v", l, m, got, want)
	}
	spoil(got, says(-8, -8, -8))
	stays()
}

func wantFail(t *testing.T, l []api.Report, m api.Map, r api.Report, ok bool, want ...api.Report) []api.Report {
	t.Helper()
	lin, min, stays := handedReports(t, l, m)
	got, is := Fail(lin, min, r)
	if is != ok || !slices.Equal(got, want) {
		t.Fatalf("Fail(%v, %+v, %v): %v, %v; want %v, %v", l, m, r, got, is, want, ok)
	}
	got = out(got, says(-8, -8, -8))
	stays()
	return got
}

func wantDown(t *testing.T, l []api.Report, m api.Map, want ...int) {
	t.Helper()
	lin, min, stays := handedReports(t, l, m)
	got := Down(lin, min)
	if !slices.Equal(got, want) {
		t.Fatalf("Down(%v, %+v): %v; want %v", l, m, got, want)
	}
	spoil(got, -8)
	stays()
}
