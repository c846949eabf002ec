package maps

import (
	"math/rand"
	"slices"
	"testing"

	"reef/api"
)

// P13.9

func TestApplyKeepsMapsFit(t *testing.T) {
	r := rand.New(rand.NewSource(5))
	for range 200 {
		m := pick(r, First(chanceHosts(r)), mixed(), with(full(), func(m *api.Map) { m.Epoch = 10 }))
		for range 60 {
			c := chanceInc(r, m)
			if r.Intn(6) == 0 {
				c = upset(r, c)
			}
			m = Apply(m, c)
			if !Fit(m) {
				t.Fatalf("behind %+v: %+v", c, m)
			}
		}
	}
}

func TestHistoryIsOfApplies(t *testing.T) {
	r := rand.New(rand.NewSource(6))
	for range 200 {
		hosts := chanceHosts(r)
		values := chanceValues(r, hosts, r.Intn(80))
		l := History(hosts, values)
		if len(l) != len(values)+1 || !Same(l[0], First(hosts)) || !Same(l[len(l)-1], At(hosts, values)) {
			t.Fatalf("History(%v, %q): %d maps", hosts, values, len(l))
		}
		for i, v := range values {
			c, _ := Decode(v)
			if !Same(l[i+1], Apply(l[i], c)) || !Same(l[i], At(hosts, values[:i])) {
				t.Fatalf("History(%v, %q): at %d", hosts, values, i)
			}
		}
	}
}

// P13.10

func TestNothingGoesBack(t *testing.T) {
	r := rand.New(rand.NewSource(7))
	for range 300 {
		hosts := chanceHosts(r)
		l := History(hosts, chanceValues(r, hosts, 100))
		for i := 1; i < len(l); i++ {
			a, b := l[i-1], l[i]
			if b.Epoch != a.Epoch+1 || !slices.Equal(a.Hosts, b.Hosts) {
				t.Fatalf("%+v, %+v", a, b)
			}
			for id, o := range a.Osds {
				if o.Boot > b.Osds[id].Boot || o.UpThru > b.Osds[id].UpThru {
					t.Fatalf("%+v, %+v", a, b)
				}
			}
			if len(a.Pools) > len(b.Pools) || !slices.Equal(a.Pools, b.Pools[:len(a.Pools)]) {
				t.Fatalf("%+v, %+v", a, b)
			}
			for _, gone := range a.Bans {
				if !Banned(b, gone) {
					t.Fatalf("%+v, %+v", a, b)
				}
			}
		}
	}
}

// P13.11. TestThereAndBack tells of texts.

func TestOnceApplied(t *testing.T) {
	r := rand.New(rand.NewSource(8))
	var changed [api.NumIcs]int
	for range 400 {
		m := pick(r, First(chanceHosts(r)), mixed(), with(full(), func(m *api.Map) { m.Epoch = 10 }))
		for range 60 {
			c := chanceInc(r, m)
			if Changes(m, c) {
				changed[c.Kind]++
			}
			m = Apply(m, c)
			switch again := Changes(m, c); {
			case !again:
			case c.Kind == api.IcPool && len(m.Pools) < 2:
			case c.Kind == api.IcThru && c.Num == m.Epoch: // it had not come yet
			default:
				t.Fatalf("%+v changes %+v once more", c, m)
			}
		}
	}
	for kind, n := range changed[1:] {
		if n < 100 {
			t.Errorf("kind %d: only %d changed anything", kind+1, n)
		}
	}
}

func TestTwiceApplied(t *testing.T) {
	m := plain()
	for _, c := range []api.Inc{boot(0, 1), boot(0, 4), thru(0, 2), weigh(0, 5), down(0, 4), ban(1, 2)} {
		if !Changes(m, c) {
			t.Errorf("%+v does not change %+v", c, m)
		}
		if m = Apply(m, c); Changes(m, c) {
			t.Errorf("%+v changes %+v once more", c, m)
		}
	}
	p := pool(2, 1, 4, 1)
	if m = Apply(m, p); !Changes(m, p) {
		t.Error("one pool, and no other")
	}
	if m = Apply(m, p); Changes(m, p) || len(m.Pools) != 2 {
		t.Error("more pools than two")
	}
	m = Apply(m, boot(0, 9))
	c := thru(0, m.Epoch+1)
	if Changes(m, c) {
		t.Error("an epoch that has not come")
	}
	if m = Apply(m, c); !Changes(m, c) {
		t.Error("an epoch that has come")
	}
	if m = Apply(m, c); Changes(m, c) {
		t.Error("an epoch that is told already")
	}
}

// What is answered hangs on nothing but what is asked.
func TestAskedAtTheSameTime(t *testing.T) {
	r := rand.New(rand.NewSource(9))
	hosts := []int{0, 1, 2, 3}
	values := chanceValues(r, hosts, 200)
	want := At(hosts, values)
	got := make(chan api.Map)
	for range 8 {
		go func() { got <- At(hosts, values) }()
	}
	for range 8 {
		if m := <-got; !alike(m, want) {
			t.Errorf("%+v; want %+v", m, want)
		}
	}
}
