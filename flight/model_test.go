package flight

import (
	"maps"
	"math"
	"math/rand"
	"slices"
	"testing"

	"reef/api"
)

// model is a flight by the chapter's words: what has become of each frame that was ever put, and which ways are cut, in no order.
type model struct {
	next  int64
	put   map[int64]api.Frame
	gone  map[int64]bool
	cut   map[[2]int]bool
	taken int
	lost  int
}

// modelOf is the model of a flight.
func modelOf(f api.Flight) *model {
	m := &model{next: f.Next, put: map[int64]api.Frame{}, gone: map[int64]bool{}, cut: map[[2]int]bool{}}
	for _, x := range f.List {
		m.put[x.Number] = x
	}
	for _, w := range f.Cut {
		m.cut[[2]int{w.From, w.To}] = true
	}
	return m
}

// there is the Numbers of the frames that are on their way.
func (m *model) there() []int64 {
	var l []int64
	for n := range m.put {
		if !m.gone[n] {
			l = append(l, n)
		}
	}
	slices.Sort(l)
	return l
}

func (m *model) on(from, to int) []int64 {
	return slices.DeleteFunc(m.there(), func(n int64) bool { return m.put[n].From != from || m.put[n].To != to })
}

func (m *model) oldest(to int) (int64, bool) {
	for _, n := range m.there() {
		if m.put[n].To == to {
			return n, true
		}
	}
	return 0, false
}

func (m *model) putOne(from, to int, body string) (int64, api.Errno) {
	switch {
	case m.cut[[2]int{from, to}]:
		return 0, api.ErrCut
	case m.next == top:
		return 0, api.ErrFull
	}
	m.next++
	m.put[m.next] = fr(m.next, from, to, body)
	return m.next, api.OK
}

func (m *model) take(n int64) (api.Frame, api.Errno) {
	x, is := m.put[n]
	if !is || m.gone[n] {
		return api.Frame{}, api.ErrNone
	}
	m.gone[n] = true
	m.taken++
	return x, api.OK
}

func (m *model) double(n int64) (int64, api.Errno) {
	x, is := m.put[n]
	if !is || m.gone[n] {
		return 0, api.ErrNone
	}
	return m.putOne(x.From, x.To, x.Body)
}

// drop loses frames.
func (m *model) drop(l []int64) int {
	for _, n := range l {
		m.gone[n] = true
	}
	m.lost += len(l)
	return len(l)
}

func (m *model) sever(from, to int) int {
	if from == to {
		return 0
	}
	m.cut[[2]int{from, to}] = true
	return m.drop(m.on(from, to))
}

func (m *model) join(from, to int) bool {
	was := m.cut[[2]int{from, to}]
	delete(m.cut, [2]int{from, to})
	return was
}

func (m *model) lose(to int) int {
	return m.drop(slices.DeleteFunc(m.there(), func(n int64) bool { return m.put[n].To != to }))
}

func (m *model) isolate(a, b []int) int {
	lost := 0
	for _, x := range a {
		for _, y := range b {
			lost += m.sever(x, y)
			lost += m.sever(y, x)
		}
	}
	return lost
}

// flight is the model as a flight.
func (m *model) flight() api.Flight {
	f := api.Flight{Next: m.next}
	for _, n := range m.there() {
		f.List = append(f.List, m.put[n])
	}
	for _, p := range slices.SortedFunc(maps.Keys(m.cut), func(p, q [2]int) int { return slices.Compare(p[:], q[:]) }) {
		f.Cut = append(f.Cut, way(p[0], p[1]))
	}
	return f
}

// hold holds all that a flight tells against the model.
func (m *model) hold(t *testing.T, f api.Flight) {
	t.Helper()
	want(t, f, m.flight())
	wantFit(t, f, true)
	if n := len(f.List) + m.taken + m.lost; n != len(m.put) {
		t.Fatalf("%d frames there, taken or lost, of %d", n, len(m.put))
	}
	for x := -1; x < nodes; x++ {
		n, is := m.oldest(x)
		wantOldest(t, f, x, n, is)
		for y := range nodes {
			wantNumbers(t, On(f, x, y), m.on(x, y)...)
		}
	}
}

// nodes is how many nodes a flight of chance is among.
const nodes = 5

// someNodes is a few nodes by chance, some of them twice.
func someNodes(r *rand.Rand) []int {
	l := make([]int, r.Intn(4))
	for i := range l {
		l[i] = r.Intn(nodes+1) - 1
	}
	return l
}

// someFlight is a fit flight by chance.
func someFlight(r *rand.Rand) api.Flight {
	f := api.Flight{Next: int64(r.Intn(40))}
	if r.Intn(8) == 0 {
		f.Next = top - int64(r.Intn(4))
	}
	for n := int64(1); n <= min(f.Next, 40); n++ {
		if r.Intn(2) == 0 {
			f.List = append(f.List, fr(n, r.Intn(nodes), r.Intn(nodes), string(rune('a'+r.Intn(4)))))
		}
	}
	for x := -1; x < nodes; x++ {
		for y := range nodes {
			if x != y && r.Intn(5) == 0 {
				f.Cut = append(f.Cut, way(x, y))
			}
		}
	}
	return f
}

// number is mostly a frame's.
func (m *model) number(r *rand.Rand) int64 {
	if l := m.there(); len(l) > 0 && r.Intn(5) > 0 {
		return l[r.Intn(len(l))]
	}
	return []int64{0, -1, 3, m.next, m.next + 1, math.MinInt64}[r.Intn(6)]
}

// step does one step of chance at both, and holds their answers against each other.
func (m *model) step(t *testing.T, f api.Flight, r *rand.Rand) api.Flight {
	t.Helper()
	x, y, s := r.Intn(nodes), r.Intn(nodes), string(rune('a'+r.Intn(26)))
	switch r.Intn(24) {
	case 0:
		f = cut(t, f, x, y, m.sever(x, y))
	case 1, 2:
		f = join(t, f, x, y, m.join(x, y))
	case 3:
		f = lose(t, f, x, m.lose(x))
	case 4:
		a, b := someNodes(r), someNodes(r)
		f = isolate(t, f, a, b, m.isolate(a, b))
	case 5, 6, 7:
		for p := range maps.Clone(m.cut) { // so that not everything is cut soon
			f = join(t, f, p[0], p[1], m.join(p[0], p[1]))
		}
	case 8, 9:
		k := m.number(r)
		g, n, e := Double(f, k)
		if w, err := m.double(k); n != w || e != err {
			t.Fatalf("Double(%d): %d, %v; want %d, %v", k, n, e, w, err)
		}
		f = g
	case 10, 11, 12, 13:
		k := m.number(r)
		g, z, e := Take(f, k)
		if w, err := m.take(k); z != w || e != err {
			t.Fatalf("Take(%d): %v, %v; want %v, %v", k, z, e, w, err)
		}
		f = g
	default:
		g, n, e := Put(f, x, y, s)
		if w, err := m.putOne(x, y, s); n != w || e != err {
			t.Fatalf("Put(%d, %d): %d, %v; want %d, %v", x, y, n, e, w, err)
		}
		f = g
	}
	return f
}

// P6.9: whatever is done, in whatever order, each answer is the one that the chapter's words come to; no number is given twice, and each frame that was put is there as it was put, or was taken, or lost.
func TestRunsOfChance(t *testing.T) {
	r := rand.New(rand.NewSource(61))
	for i := range 120 {
		f := api.Flight{}
		if i%2 == 1 {
			f = someFlight(r)
		}
		m := modelOf(f)
		m.hold(t, f)
		for range 120 {
			f = m.step(t, f, r)
			m.hold(t, f)
		}
	}
}

func TestNumbersAreNeverGivenTwice(t *testing.T) {
	r := rand.New(rand.NewSource(65))
	f, given := api.Flight{}, map[int64]bool{}
	for range 3000 {
		g, n, e := Put(f, r.Intn(3), r.Intn(3), "a")
		if r.Intn(3) == 0 {
			g, n, e = Double(f, int64(len(given)))
		}
		if e == api.OK && (given[n] || n < 1) {
			t.Fatalf("Number %d was given already", n)
		}
		if e == api.OK {
			given[n] = true
		}
		f = g
		switch r.Intn(5) { // the last ones go, and their Numbers with them
		case 0:
			f, _, _ = Take(f, n)
		case 1:
			f, _ = Lose(f, r.Intn(3))
		case 2:
			f, _ = Cut(f, r.Intn(3), r.Intn(3))
		case 3:
			f, _ = Join(f, r.Intn(3), r.Intn(3))
		}
	}
	if len(given) < 1000 || f.Next != int64(len(given)) {
		t.Fatalf("%d Numbers were given, Next is %d", len(given), f.Next)
	}
}

// 0.1: of an unfit flight nothing is promised, but that each call ends and none panics.
func TestUnfitFlights(t *testing.T) {
	r := rand.New(rand.NewSource(66))
	odd := func() int64 {
		return []int64{0, 1, -1, 2, 5, math.MaxInt64, math.MinInt64, top, top + 1}[r.Intn(9)]
	}
	for range 500 {
		f := api.Flight{Next: odd()}
		for range r.Intn(8) {
			f.List = append(f.List, fr(odd(), int(odd()), int(odd()), "u"))
			f.Cut = append(f.Cut, way(int(odd()), int(odd())))
		}
		for range 4 {
			x, y := int(odd()), int(odd())
			Put(f, x, y, "v")
			Take(f, odd())
			Double(f, odd())
			Cut(f, x, y)
			Join(f, x, y)
			Lose(f, x)
			On(f, x, y)
			Oldest(f, x)
			Isolate(f, []int{x, y, 1}, []int{y, x, -1, 0})
			Fit(f)
			Same(f, f)
		}
	}
	f := cutting(many(70000), way(3, 3))
	for _, act := range acts() {
		act(f)
	}
}
