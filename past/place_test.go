package past

import (
	"math/rand"
	"slices"
	"strings"
	"testing"

	"reef/api"
	"reef/hash"
	"reef/maps"
)

// wantPlaces asks for a PG's Raw and Acting, each in memory of its own.
func wantPlaces(t *testing.T, m api.Map, pg api.Pg, raw, acting []int) {
	t.Helper()
	in := laid(m)
	a, b := Raw(in, pg), Acting(in, pg)
	if !slices.Equal(a, raw) || !slices.Equal(b, acting) {
		t.Fatalf("%+v, %+v: Raw %v, Acting %v; want %v, %v", m, pg, a, b, raw, acting)
	}
	fill(a, -9)
	fill(b, -9)
	wantLaid(t, in, m)
}

// P14.1. The places were worked out apart from this project, by the words of the chapters.

func TestRawKnown(t *testing.T) {
	other := with(plain(), func(m *api.Map) { m.Osds[1].Weight, m.Osds[2].Weight = 0, 2*one })
	for _, c := range []struct {
		pg           api.Pg
		plain, other []int
	}{
		{api.Pg{Num: 0}, []int{1, 4, 3}, []int{0, 4, 2}},
		{api.Pg{Num: 1}, []int{4, 1, 2}, []int{2, 0, 4}},
		{api.Pg{Num: 2}, []int{4, 3, 0}, []int{4, 3, 0}},
		{api.Pg{Num: 3}, []int{0, 2, 4}, []int{4, 0, 2}},
		{api.Pg{Num: 4}, []int{3, 0, 4}, []int{2, 0, 4}},
		{api.Pg{Num: 5}, []int{0, 4, 2}, []int{0, 3, 4}},
		{api.Pg{Num: 6}, []int{3, 1, 4}, []int{3, 4, 0}},
		{api.Pg{Num: 7}, []int{2, 1, 4}, []int{2, 0, 4}},
		{api.Pg{Pool: 1, Num: 0}, []int{3, 0}, []int{3, 2}},
		{api.Pg{Pool: 1, Num: 1}, []int{2, 4}, []int{2, 4}},
		{api.Pg{Pool: 1, Num: 2}, []int{1, 0}, []int{3, 4}},
	} {
		wantPlaces(t, plain(), c.pg, c.plain, c.plain)
		wantPlaces(t, other, c.pg, c.other, c.other)
		wantPlaces(t, ups(other, 0), c.pg, c.other, nil)
	}
}

// The nodes and the pool of the document's ten examples.
func TestActingOfTheExamples(t *testing.T) {
	m := maps.At([]int{0, 1}, texts(boot(0, 1), boot(1, 1), pool(2, 1, 2, api.DmOsd)))
	wantPlaces(t, m, api.Pg{Num: 0}, []int{0, 1}, []int{0, 1})
	wantPlaces(t, m, api.Pg{Num: 1}, []int{1, 0}, []int{1, 0})
	m = maps.Apply(m, down(0, 1))
	wantPlaces(t, m, api.Pg{Num: 0}, []int{0, 1}, []int{1})
	wantPlaces(t, m, api.Pg{Num: 1}, []int{1, 0}, []int{1})
}

func TestActingOfAllThatAreUp(t *testing.T) {
	for set := range 1 << 5 {
		m := ups(plain(), set)
		for _, pg := range Pgs(m) {
			raw := Raw(plain(), pg)
			var acting []int
			for _, id := range raw {
				if set>>id&1 == 1 {
					acting = append(acting, id)
				}
			}
			wantPlaces(t, m, pg, raw, acting)
		}
	}
}

// Nodes that never were up, or bear nothing.
func TestPlacesOfNodesThatAreNotOfUse(t *testing.T) {
	m := maps.At([]int{0, 1, 2}, texts(pool(3, 1, 1, api.DmHost)))
	if raw := Raw(m, api.Pg{}); len(raw) != 3 || len(Acting(m, api.Pg{})) != 0 {
		t.Errorf("Raw %v, Acting %v", raw, Acting(m, api.Pg{}))
	}
	m = with(plain(), func(m *api.Map) {
		for id := range m.Osds {
			m.Osds[id].Weight = 0
		}
	})
	for _, pg := range Pgs(m) {
		wantPlaces(t, m, pg, nil, nil)
	}
}

func TestPlacesOfNoPg(t *testing.T) {
	one := with(plain(), func(m *api.Map) { m.Pools = m.Pools[:1] })
	none := with(plain(), func(m *api.Map) { m.Pools = nil })
	for _, m := range []api.Map{plain(), one, none, maps.First([]int{0})} {
		for _, pool := range odd() {
			for _, num := range odd() {
				if pg := (api.Pg{Pool: pool, Num: num}); !is(m, pg) {
					wantPlaces(t, m, pg, nil, nil)
				}
			}
		}
	}
	for _, pg := range []api.Pg{{Num: -1}, {Num: 8}, {Pool: 1, Num: -1}, {Pool: 1, Num: 3}, {Pool: -1}, {Pool: 2}} {
		wantPlaces(t, plain(), pg, nil, nil)
	}
}

func TestPlacesByWords(t *testing.T) {
	r := rand.New(rand.NewSource(1))
	for range 300 {
		m := chanceMap(r)
		for _, pg := range somePgs() {
			acting, _ := actingByWords(m, pg)
			wantPlaces(t, m, pg, rawByWords(m, pg), acting)
		}
	}
}

// P14.2

func wantLocate(t *testing.T, m api.Map, pool int, name string, pg api.Pg, ok bool) {
	t.Helper()
	in := laid(m)
	if got, is := Locate(in, pool, name); got != pg || is != ok {
		t.Fatalf("Locate(%+v, %d, %q): %+v, %v; want %+v, %v", m, pool, name, got, is, pg, ok)
	}
	wantLaid(t, in, m)
}

// The numbers were worked out apart from this project, for pools of 1 to 8 PGs.
func TestLocateKnown(t *testing.T) {
	for _, c := range []struct {
		name string
		nums [8]int
	}{
		{"", [8]int{0, 1, 2, 3, 3, 5, 4, 3}},
		{"a", [8]int{0, 1, 0, 3, 0, 3, 0, 3}},
		{"b", [8]int{0, 0, 0, 2, 4, 0, 5, 2}},
		{"image.1", [8]int{0, 1, 0, 1, 1, 3, 1, 1}},
		{"\x00", [8]int{0, 1, 2, 3, 3, 5, 4, 3}},
		{"\xff\xfe", [8]int{0, 0, 0, 0, 1, 0, 1, 0}},
		{"é", [8]int{0, 1, 0, 3, 3, 3, 1, 7}},
		{strings.Repeat("x", 300), [8]int{0, 0, 2, 2, 0, 2, 6, 2}},
	} {
		for i, num := range c.nums {
			m := with(plain(), func(m *api.Map) { m.Pools[1].PGs = i + 1 })
			wantLocate(t, m, 1, c.name, api.Pg{Pool: 1, Num: num}, true)
			wantLocate(t, m, 0, c.name, api.Pg{Pool: 0, Num: c.nums[7]}, true)
			wantLocate(t, ups(m, 0), 1, c.name, api.Pg{Pool: 1, Num: num}, true)
		}
	}
}

func TestLocateOfNoPool(t *testing.T) {
	one := with(plain(), func(m *api.Map) { m.Pools = m.Pools[:1] })
	for _, m := range []api.Map{plain(), one, maps.First([]int{0, 1})} {
		for _, pool := range odd() {
			if pool < 0 || pool >= len(m.Pools) {
				wantLocate(t, m, pool, "a", api.Pg{}, false)
				wantLocate(t, m, pool, "", api.Pg{}, false)
			}
		}
	}
}

func TestLocateOfAnyBytes(t *testing.T) {
	r := rand.New(rand.NewSource(2))
	var met [8]int
	for range 2000 {
		b := make([]byte, r.Intn(40))
		r.Read(b)
		num := int(hash.Text(string(b)) % 8)
		wantLocate(t, plain(), 0, string(b), api.Pg{Num: num}, true)
		met[num]++
	}
	if slices.Min(met[:]) < 150 {
		t.Errorf("names lie unevenly: %v", met)
	}
}

// P14.3

func wantPgs(t *testing.T, m api.Map, l ...api.Pg) {
	t.Helper()
	in := laid(m)
	got := Pgs(in)
	if !slices.Equal(got, l) {
		t.Fatalf("Pgs(%+v): %v; want %v", m, got, l)
	}
	fill(got, api.Pg{Pool: -9})
	wantLaid(t, in, m)
}

func TestPgs(t *testing.T) {
	of := func(l ...api.Inc) api.Map { return maps.At([]int{0, 1}, texts(l...)) }
	wantPgs(t, of())
	wantPgs(t, of(boot(0, 1)))
	wantPgs(t, of(pool(1, 1, 1, 1)), api.Pg{})
	wantPgs(t, of(pool(1, 1, 2, 1), pool(3, 2, 3, 2)), api.Pg{}, api.Pg{Num: 1}, api.Pg{Pool: 1}, api.Pg{Pool: 1, Num: 1}, api.Pg{Pool: 1, Num: 2})
	for a := 1; a <= 8; a++ {
		for b := 1; b <= 8; b++ {
			var l []api.Pg
			for num := range a {
				l = append(l, api.Pg{Num: num})
			}
			for num := range b {
				l = append(l, api.Pg{Pool: 1, Num: num})
			}
			wantPgs(t, of(pool(1, 1, a, 1), boot(0, 1), pool(1, 1, b, 2)), l...)
		}
	}
}

// P14.7

func wantClean(t *testing.T, m api.Map, pg api.Pg, ok bool) {
	t.Helper()
	in := laid(m)
	if got := Clean(in, pg); got != ok {
		t.Fatalf("Clean(%+v, %+v): %v", m, pg, got)
	}
	wantLaid(t, in, m)
}

func TestClean(t *testing.T) {
	for set := range 1 << 5 {
		m := ups(plain(), set)
		for _, pg := range somePgs() {
			wantClean(t, m, pg, is(m, pg) && len(Acting(m, pg)) == m.Pools[pg.Pool].Size)
		}
	}
	wantClean(t, plain(), api.Pg{Num: 0}, true)
	wantClean(t, plain(), api.Pg{Num: 8}, false)
	wantClean(t, ups(plain(), 1<<1|1<<4|1<<3), api.Pg{Num: 0}, true)
	wantClean(t, ups(plain(), 1<<1|1<<4), api.Pg{Num: 0}, false) // Min members are fewer than Size
	wantClean(t, ups(plain(), 0), api.Pg{Num: 0}, false)
}

// Where the rule finds fewer nodes than Size, all being up is not enough.
func TestCleanOfTooFewNodes(t *testing.T) {
	m := maps.At([]int{0, 0}, texts(boot(0, 1), boot(1, 1), pool(2, 1, 1, api.DmHost), pool(2, 1, 1, api.DmOsd)))
	wantClean(t, m, api.Pg{}, false)
	wantClean(t, m, api.Pg{Pool: 1}, true)
	wantClean(t, maps.Apply(m, weigh(0, 0)), api.Pg{Pool: 1}, false)
	wantClean(t, maps.Apply(m, down(0, 1)), api.Pg{Pool: 1}, false)
}
