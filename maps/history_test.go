package maps

import (
	"math/rand"
	"slices"
	"strings"
	"testing"

	"reef/api"
)

// texts are the texts of some changes.
func texts(l ...api.Inc) []string {
	var values []string
	for _, c := range l {
		values = append(values, Encode(c))
	}
	return values
}

// noTexts is values that tell an error.
func noTexts() []string {
	return []string{
		"", "x", "\x01\x01\x00\x03\x00\x00\x00", "\x01\x01\x00\x03\x00\x00\x00\x00\x00", "\x00\x00\x00\x00\x00\x00\x00\x00",
		"\x09\x00\x00\x00\x00\x00\x00\x00", "\x01\x08\x00\x03\x00\x00\x00\x00", strings.Repeat("\xff", 300), strings.Repeat("\x01", 8),
	}
}

// mapsByWords is the maps of all epochs, each by the one ahead.
func mapsByWords(hosts []int, values []string) []api.Map {
	m := api.Map{Hosts: slices.Clone(hosts)}
	for range hosts {
		m.Osds = append(m.Osds, api.Osd{Weight: unit})
	}
	l := []api.Map{m}
	for i := 0; i < len(values) && i < 4096; i++ {
		c, _ := decodeByWords(values[i])
		m, _ = applyByWords(m, c)
		l = append(l, m)
	}
	return l
}

// wantMaps asks for the maps of all epochs, and for the last of them; none, if hosts are none.
func wantMaps(t *testing.T, hosts []int, values []string, want []api.Map) {
	t.Helper()
	in, row := spare(hosts, 5), spare(values, "spare")
	l := History(in, row)
	if len(l) != len(want) {
		t.Fatalf("History(%v, %q): %d maps; want %d", hosts, values, len(l), len(want))
	}
	for i, m := range l {
		if !alike(m, want[i]) || m.Epoch != int64(i) {
			t.Fatalf("History(%v, %q): at %d %+v; want %+v", hosts, values, i, m, want[i])
		}
	}
	for i, m := range l {
		spoil(m) // each is memory of its own
		for k := i + 1; k < min(len(l), i+4); k++ {
			if !alike(l[k], want[k]) {
				t.Fatalf("the maps %d and %d share their memory", i, k)
			}
		}
	}
	at := api.Map{}
	if len(want) > 0 {
		at = want[len(want)-1]
	}
	got := At(in, row)
	if !alike(got, at) {
		t.Fatalf("At(%v, %q): %+v; want %+v", hosts, values, got, at)
	}
	spoil(got)
	if !slices.Equal(in[:len(in)+3], spare(hosts, 5)[:len(hosts)+3]) || !slices.Equal(row[:len(row)+3], spare(values, "spare")[:len(values)+3]) {
		t.Fatalf("what went in is %v, %q", in, row)
	}
}

// P13.6, P13.7

func TestMapsOfValues(t *testing.T) {
	hosts := []int{0, 0, 1}
	values := texts(boot(1, 3), down(1, 2), down(1, 3), pool(3, 2, 4, 2), boot(2, 1), thru(2, 5), weigh(0, 0), ban(3, 9), ban(1, 2))
	m := plain()
	want := []api.Map{m}
	for i, change := range []func(m *api.Map){
		func(m *api.Map) { m.Osds[1].Boot, m.Osds[1].Up = 3, true },
		func(m *api.Map) {},
		func(m *api.Map) { m.Osds[1].Up = false },
		func(m *api.Map) { m.Pools = []api.Pool{{Size: 3, Min: 2, PGs: 4, Domain: 2}} },
		func(m *api.Map) { m.Osds[2].Boot, m.Osds[2].Up = 1, true },
		func(m *api.Map) { m.Osds[2].UpThru = 5 },
		func(m *api.Map) { m.Osds[0].Weight = 0 },
		func(m *api.Map) { m.Bans = []api.Ban{{Client: 3, Inst: 9}} },
		func(m *api.Map) { m.Bans = []api.Ban{{Client: 1, Inst: 2}, {Client: 3, Inst: 9}} },
	} {
		m = with(m, change)
		m.Epoch = int64(i + 1)
		want = append(want, m)
	}
	for n := range len(values) + 1 {
		wantMaps(t, hosts, values[:n], want[:n+1])
	}
	wantMaps(t, hosts, nil, []api.Map{First(hosts)})
}

func TestMapsOfValuesThatTellAnError(t *testing.T) {
	var want []api.Map
	for i := range len(noTexts()) + 1 {
		want = append(want, with(plain(), func(m *api.Map) { m.Epoch = int64(i) }))
	}
	wantMaps(t, []int{0, 0, 1}, noTexts(), want)
	for _, s := range noTexts() {
		up := with(plain(), func(m *api.Map) { m.Osds[0] = api.Osd{Boot: 1, Up: true, Weight: unit} })
		var row []api.Map
		for i, m := range []api.Map{plain(), plain(), up, up} {
			row = append(row, with(m, func(m *api.Map) { m.Epoch = int64(i) }))
		}
		row = append(row, with(up, func(m *api.Map) { m.Epoch, m.Osds[0].UpThru = 4, 3 })) // the epoch went on
		wantMaps(t, []int{0, 0, 1}, []string{s, Encode(boot(0, 1)), s, Encode(thru(0, 3))}, row)
	}
}

func TestMapsOfHostsThatAreNone(t *testing.T) {
	for _, hosts := range noHosts() {
		wantMaps(t, hosts, nil, nil)
		wantMaps(t, hosts, texts(boot(0, 1), ban(1, 1)), nil)
	}
}

func TestMapsOfHosts(t *testing.T) {
	for _, hosts := range someHosts() {
		values := append(texts(boot(0, 1), boot(7, 1), weigh(len(hosts)-1, 5), down(len(hosts)-1, 1)), "")
		wantMaps(t, hosts, values, mapsByWords(hosts, values))
	}
}

// Values beyond the 4096th play no part, whatever they are.
func TestMapsOfManyValues(t *testing.T) {
	hosts := []int{0, 1}
	values := []string{Encode(boot(0, 1))}
	for len(values) < 4094 {
		values = append(values, Encode(weigh(1, int64(len(values)))))
	}
	values = append(values, Encode(ban(1, 1)), Encode(thru(0, 4095)), Encode(ban(2, 2)), "x", Encode(boot(1, 1)), Encode(ban(3, 3)))
	want := mapsByWords(hosts, values)
	if len(want) != 4097 {
		t.Fatal(len(want))
	}
	for _, n := range []int{4095, 4096, 4097, 4098, 4100} {
		wantMaps(t, hosts, values[:n], want[:min(n, 4096)+1])
	}
	m := At(hosts, values)
	if m.Epoch != 4096 || m.Osds[0].UpThru != 4095 || m.Osds[1].Boot != 0 || !slices.Equal(m.Bans, []api.Ban{{Client: 1, Inst: 1}}) || !Fit(m) {
		t.Errorf("%+v", m)
	}
	wantMaps(t, hosts, slices.Repeat([]string{""}, 6000), mapsByWords(hosts, slices.Repeat([]string{""}, 4096)))
}

func TestMapsByWords(t *testing.T) {
	r := rand.New(rand.NewSource(4))
	for range 100 {
		hosts := chanceHosts(r)
		values := chanceValues(r, hosts, r.Intn(150))
		wantMaps(t, hosts, values, mapsByWords(hosts, values))
	}
}

// chanceValues is values that go on from one another, some of which tell an error.
func chanceValues(r *rand.Rand, hosts []int, n int) []string {
	m := First(hosts)
	var values []string
	for range n {
		c := chanceInc(r, m)
		values = append(values, Encode(c))
		if r.Intn(8) == 0 {
			c, values[len(values)-1] = api.Inc{}, pick(r, noTexts()...)
		}
		m = Apply(m, c)
	}
	return values
}

func TestEpochsAreLeft(t *testing.T) {
	for n := 1; n < 4; n++ {
		seen := 0
		for m := range epochs([]int{1}, texts(boot(0, 1), boot(0, 2))) {
			if m.Epoch != int64(seen) {
				t.Fatal(m)
			}
			if seen++; seen == n {
				break
			}
		}
		if seen != n {
			t.Errorf("%d epochs; want %d", seen, n)
		}
	}
}

// P13.8

// What is banned in the spare room alone, client 0's instance 5, is not banned.
func TestBanned(t *testing.T) {
	for _, m := range []api.Map{plain(), mixed(), full()} {
		for _, inst := range odd() {
			for _, client := range []int64{0, 1, 2, 3, 4, -1, 1 << 32, 1<<32 + 1} {
				b := api.Ban{Client: int(client), Inst: inst}
				is := false
				for _, have := range m.Bans {
					is = is || int64(have.Client) == client && have.Inst == inst
				}
				in := laid(m)
				if Banned(in, b) != is {
					t.Fatalf("Banned(%+v, %+v): %v", m, b, !is)
				}
				wantLaid(t, in, m)
			}
		}
		for _, b := range m.Bans {
			if !Banned(m, b) {
				t.Errorf("%+v of %+v: not banned", b, m)
			}
		}
	}
}

func wantUp(t *testing.T, m api.Map, l ...int) {
	t.Helper()
	in := laid(m)
	got := Up(in)
	if !slices.Equal(got, l) {
		t.Errorf("Up(%+v): %v; want %v", m, got, l)
	}
	fill(got, -9)
	wantLaid(t, in, m)
}

func TestUp(t *testing.T) {
	wantUp(t, plain())
	wantUp(t, mixed(), 0, 3)
	wantUp(t, full(), 0, 2, 4, 6)
	for set := range 1 << 8 {
		var l []int
		m := First([]int{0, 1, 2, 3, 4, 5, 6, 7})
		for i := range 8 {
			if set>>i&1 == 1 {
				l = append(l, i)
				m = Apply(m, boot(i, 1))
			} else if set%3 == 0 {
				m = Apply(Apply(m, boot(i, 1)), down(i, 1))
			}
		}
		wantUp(t, m, l...)
	}
	wantUp(t, with(mixed(), func(m *api.Map) { m.Osds[3].Weight = 0 }), 0, 3) // up, if it bears nothing
}

func wantSame(t *testing.T, what string, a, b api.Map, is bool) {
	t.Helper()
	a, b = laid(a), own(b)
	if Same(a, b) != is || Same(b, a) != is {
		t.Errorf("%s: Same(%+v, %+v): %v, %v", what, a, b, Same(a, b), Same(b, a))
	}
}

// changesByHand is changes of one field of a map that has something in all lists.
func changesByHand() map[string]func(m *api.Map) {
	return map[string]func(m *api.Map){
		"Epoch":         func(m *api.Map) { m.Epoch++ },
		"Epoch below 0": func(m *api.Map) { m.Epoch = -m.Epoch },
		"Hosts":         func(m *api.Map) { m.Hosts[3]++ },
		"host less":     func(m *api.Map) { m.Hosts = m.Hosts[:3] },
		"host more":     func(m *api.Map) { m.Hosts = append(m.Hosts, 0) },
		"no hosts":      func(m *api.Map) { m.Hosts = nil },
		"hosts' order":  func(m *api.Map) { m.Hosts[0], m.Hosts[1] = m.Hosts[1], m.Hosts[0] },
		"Boot":          func(m *api.Map) { m.Osds[2].Boot++ },
		"Up":            func(m *api.Map) { m.Osds[2].Up = true },
		"Weight":        func(m *api.Map) { m.Osds[2].Weight += 1 << 32 },
		"UpThru":        func(m *api.Map) { m.Osds[2].UpThru-- },
		"node less":     func(m *api.Map) { m.Osds = m.Osds[:3] },
		"node more":     func(m *api.Map) { m.Osds = append(m.Osds, api.Osd{}) },
		"no nodes":      func(m *api.Map) { m.Osds = nil },
		"nodes' order":  func(m *api.Map) { m.Osds[0], m.Osds[1] = m.Osds[1], m.Osds[0] },
		"Size":          func(m *api.Map) { m.Pools[0].Size = -1 },
		"Min":           func(m *api.Map) { m.Pools[0].Min++ },
		"PGs":           func(m *api.Map) { m.Pools[0].PGs += 1 << 32 },
		"Domain":        func(m *api.Map) { m.Pools[0].Domain = 1 },
		"no pools":      func(m *api.Map) { m.Pools = nil },
		"pool more":     func(m *api.Map) { m.Pools = append(m.Pools, m.Pools[0]) },
		"zero pool":     func(m *api.Map) { m.Pools = append(m.Pools, api.Pool{}) },
		"Client":        func(m *api.Map) { m.Bans[0].Client = 1 },
		"Inst":          func(m *api.Map) { m.Bans[3].Inst-- },
		"ban less":      func(m *api.Map) { m.Bans = m.Bans[1:] },
		"ban more":      func(m *api.Map) { m.Bans = append(m.Bans, m.Bans[3]) },
		"no bans":       func(m *api.Map) { m.Bans = nil },
		"bans' order":   func(m *api.Map) { m.Bans[0], m.Bans[1] = m.Bans[1], m.Bans[0] },
	}
}

func TestSame(t *testing.T) {
	all := []api.Map{{}, plain(), mixed(), full(), with(plain(), func(m *api.Map) { m.Hosts[0] = 1 })}
	for i, a := range all {
		for k, b := range all {
			wantSame(t, "two of all", a, b, i == k)
		}
	}
	for name, change := range changesByHand() {
		m := with(mixed(), change)
		wantSame(t, name, m, mixed(), false)
		wantSame(t, name, m, m, true) // whether it is fit or not
	}
}

func TestSameOfNilAndEmptyLists(t *testing.T) {
	empty := api.Map{Hosts: []int{}, Osds: []api.Osd{}, Pools: []api.Pool{}, Bans: []api.Ban{}}
	wantSame(t, "nothing", empty, api.Map{}, true)
	if !Same(empty, api.Map{}) || !Same(api.Map{}, empty) || !Same(api.Map{}, laid(api.Map{})) {
		t.Error("nil and empty lists are not the same")
	}
	wantSame(t, "a zero one", empty, api.Map{Hosts: []int{0}}, false)
	wantSame(t, "a zero one", empty, api.Map{Osds: []api.Osd{{}}}, false)
	wantSame(t, "a zero one", empty, api.Map{Pools: []api.Pool{{}}}, false)
	wantSame(t, "a zero one", empty, api.Map{Bans: []api.Ban{{}}}, false)
}
