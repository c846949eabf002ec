package maps

import (
	"fmt"
	"math"
	"math/rand"
	"slices"
	"testing"

	"reef/api"
)

const (
	unit = 65536   // a weight of one
	wide = 1 << 20 // the greatest weight
	last = 1 << 30 // the last boot number, instance, and epoch that a change may name
	end  = 4096    // a map's last epoch
)

func boot(osd int, n int64) api.Inc   { return api.Inc{Kind: 1, Osd: osd, Num: n} }
func down(osd int, n int64) api.Inc   { return api.Inc{Kind: 2, Osd: osd, Num: n} }
func weigh(osd int, n int64) api.Inc  { return api.Inc{Kind: 3, Osd: osd, Num: n} }
func thru(osd int, n int64) api.Inc   { return api.Inc{Kind: 4, Osd: osd, Num: n} }
func ban(client int, n int64) api.Inc { return api.Inc{Kind: 6, Client: client, Num: n} }

func pool(size, min, pgs, domain int) api.Inc {
	return api.Inc{Kind: 5, Pool: api.Pool{Size: size, Min: min, PGs: pgs, Domain: domain}}
}

// plain is three storage nodes on two hosts, of which none ever was up.
func plain() api.Map {
	return api.Map{Hosts: []int{0, 0, 1}, Osds: []api.Osd{{Weight: unit}, {Weight: unit}, {Weight: unit}}}
}

// mixed is four storage nodes in unlike states, a pool and some bans, at epoch 9.
func mixed() api.Map {
	return api.Map{
		Epoch: 9,
		Hosts: []int{3, 0, 3, 7},
		Osds:  []api.Osd{{Boot: 3, Up: true, Weight: unit, UpThru: 8}, {}, {Boot: 5, Weight: 1, UpThru: 2}, {Boot: last, Up: true, Weight: wide}},
		Pools: []api.Pool{{Size: 3, Min: 2, PGs: 8, Domain: 2}},
		Bans:  []api.Ban{{Client: 0, Inst: 7}, {Client: 1, Inst: 2}, {Client: 1, Inst: 4}, {Client: 3, Inst: last}},
	}
}

// full is eight storage nodes, and as many pools and bans as there may be, ahead of the last epoch.
func full() api.Map {
	m := api.Map{Epoch: end - 1, Pools: []api.Pool{{Size: 1, Min: 1, PGs: 1, Domain: 1}, {Size: 3, Min: 3, PGs: 8, Domain: 2}}}
	for i := range 8 {
		m.Hosts = append(m.Hosts, 7-i)
		m.Osds = append(m.Osds, api.Osd{Boot: int64(i + 1), Up: i%2 == 0, Weight: unit, UpThru: int64(i)})
	}
	for i := range 64 {
		m.Bans = append(m.Bans, api.Ban{Client: i / 16, Inst: int64(2*(i%16) + 1)})
	}
	return m
}

// with is a map that was changed by hand.
func with(m api.Map, change func(m *api.Map)) api.Map {
	m = own(m)
	change(&m)
	return m
}

// own is a map in memory of its own.
func own(m api.Map) api.Map {
	m.Hosts, m.Osds = slices.Clone(m.Hosts), slices.Clone(m.Osds)
	m.Pools, m.Bans = slices.Clone(m.Pools), slices.Clone(m.Bans)
	return m
}

// alike holds maps against each other by what they say; nil and empty lists say the same.
func alike(a, b api.Map) bool { return fmt.Sprintf("%+v", a) == fmt.Sprintf("%+v", b) }

// spare is a list with spare room, in which something stands.
func spare[T any](l []T, x T) []T { return append(slices.Clone(l), x, x, x)[:len(l)] }

// laid is a map whose lists have spare room.
func laid(m api.Map) api.Map {
	m.Hosts, m.Osds = spare(m.Hosts, 5), spare(m.Osds, api.Osd{Boot: 5, Up: true})
	m.Pools, m.Bans = spare(m.Pools, api.Pool{Size: 5}), spare(m.Bans, api.Ban{Inst: 5})
	return m
}

// room is a laid map with what stands in its lists' spare room.
func room(m api.Map) api.Map {
	m.Hosts, m.Osds = m.Hosts[:len(m.Hosts)+3], m.Osds[:len(m.Osds)+3]
	m.Pools, m.Bans = m.Pools[:len(m.Pools)+3], m.Bans[:len(m.Bans)+3]
	return m
}

// fill lays something over a list and its spare room.
func fill[T any](l []T, x T) {
	l = l[:cap(l)]
	for i := range l {
		l[i] = x
	}
}

// spoil lays something over all of a map's memory.
func spoil(m api.Map) {
	fill(m.Hosts, -9)
	fill(m.Osds, api.Osd{Boot: -9})
	fill(m.Pools, api.Pool{Size: -9})
	fill(m.Bans, api.Ban{Inst: -9})
}

// wantLaid asks for a laid map that is as it was.
func wantLaid(t *testing.T, m, was api.Map) {
	t.Helper()
	if !alike(room(m), room(laid(was))) {
		t.Fatalf("what went in is %+v; want %+v", m, was)
	}
}

// wantApply asks for a map behind a change, in memory of its own, and for what Changes tells.
func wantApply(t *testing.T, m api.Map, c api.Inc, want api.Map, changes bool) {
	t.Helper()
	in := laid(m)
	got := Apply(in, c)
	if !alike(got, want) {
		t.Fatalf("Apply(%+v, %+v): %+v; want %+v", m, c, got, want)
	}
	if Fit(m) && !Fit(got) {
		t.Fatalf("Apply(%+v, %+v): %+v is not fit", m, c, got)
	}
	spoil(got)
	if is := Changes(in, c); is != changes {
		t.Fatalf("Changes(%+v, %+v): %v", m, c, is)
	}
	wantLaid(t, in, m)
}

// wantChange asks for a change that changes something of a map: that which is changed by hand.
func wantChange(t *testing.T, m api.Map, c api.Inc, change func(m *api.Map)) {
	t.Helper()
	want := with(m, change)
	want.Epoch++
	wantApply(t, m, c, want, true)
}

// wantNothing asks for changes that change nothing but the epoch.
func wantNothing(t *testing.T, m api.Map, l ...api.Inc) {
	t.Helper()
	for _, c := range l {
		wantApply(t, m, c, with(m, func(m *api.Map) { m.Epoch++ }), false)
	}
}

// odd is numbers near a bound of any kind.
func odd() []int64 {
	return []int64{
		math.MinInt64, math.MinInt64 + 1, -1 << 32, -1 << 31, -2, -1, 0, 1, 2, 3, 4, 5, 6, 7, 8, 9, 63, 64, 65, 127, 128, 255, 256,
		end - 1, end, end + 1, unit - 1, unit, unit + 1, wide - 1, wide, wide + 1, last - 1, last, last + 1, 1 << 31, 1 << 32, 1<<32 + 1, 1<<32 + 2, 1 << 62, math.MaxInt64 - 1, math.MaxInt64,
	}
}

// poolByWords tells whether a pool can be.
func poolByWords(p api.Pool) bool {
	return (p.Size == 1 || p.Size == 2 || p.Size == 3) && p.Min >= 1 && p.Min <= p.Size && p.PGs >= 1 && p.PGs <= 8 && (p.Domain == 1 || p.Domain == 2)
}

// incByWords tells whether a change is one, field by field.
func incByWords(c api.Inc) bool {
	osd, client, num, pool := c.Osd == 0, c.Client == 0, c.Num == 0, c.Pool == api.Pool{}
	if c.Kind == 1 || c.Kind == 2 || c.Kind == 3 || c.Kind == 4 {
		osd = c.Osd >= 0 && c.Osd <= 7
	}
	if c.Kind == 6 {
		client = c.Client >= 0 && c.Client <= 3
	}
	if c.Kind == 1 || c.Kind == 2 || c.Kind == 4 || c.Kind == 6 {
		num = c.Num >= 1 && c.Num <= 1<<30
	}
	if c.Kind == 3 {
		num = c.Num >= 0 && c.Num <= 1<<20
	}
	if c.Kind == 5 {
		pool = poolByWords(c.Pool)
	}
	return c.Kind >= 1 && c.Kind <= 6 && osd && client && num && pool
}

// applyByWords is the map behind a change, by the chapter's table, and whether anything but the epoch is another.
func applyByWords(m api.Map, c api.Inc) (api.Map, bool) {
	m = own(m)
	if m.Epoch == end {
		return m, false
	}
	was := own(m)
	there := incByWords(c) && c.Kind <= 4 && c.Osd < len(m.Osds)
	switch {
	case there && c.Kind == 1 && c.Num > m.Osds[c.Osd].Boot:
		m.Osds[c.Osd].Boot = c.Num
		m.Osds[c.Osd].Up = true
	case there && c.Kind == 2 && m.Osds[c.Osd].Up && m.Osds[c.Osd].Boot == c.Num:
		m.Osds[c.Osd].Up = false
	case there && c.Kind == 3:
		m.Osds[c.Osd].Weight = c.Num
	case there && c.Kind == 4 && m.Osds[c.Osd].Up && c.Num > m.Osds[c.Osd].UpThru && c.Num <= m.Epoch:
		m.Osds[c.Osd].UpThru = c.Num
	case incByWords(c) && c.Kind == 5 && len(m.Pools) < 2:
		m.Pools = append(m.Pools, c.Pool)
	case incByWords(c) && c.Kind == 6 && len(m.Bans) < 64 && !slices.Contains(m.Bans, api.Ban{Client: c.Client, Inst: c.Num}):
		m.Bans = append(m.Bans, api.Ban{Client: c.Client, Inst: c.Num})
		slices.SortFunc(m.Bans, func(a, b api.Ban) int { return int(int64(a.Client-b.Client)<<31 + a.Inst - b.Inst) })
	}
	changed := !alike(m, was)
	m.Epoch++
	return m, changed
}

// pick is one of some numbers.
func pick[T any](r *rand.Rand, l ...T) T { return l[r.Intn(len(l))] }

// chancePool is a pool that can be.
func chancePool(r *rand.Rand) api.Pool {
	size := 1 + r.Intn(3)
	return api.Pool{Size: size, Min: 1 + r.Intn(size), PGs: 1 + r.Intn(8), Domain: 1 + r.Intn(2)}
}

// chanceInc is a change that is one, as it may be of use to a map like m.
func chanceInc(r *rand.Rand, m api.Map) api.Inc {
	osd := r.Intn(min(8, len(m.Osds)+1))
	o := api.Osd{}
	if osd < len(m.Osds) {
		o = m.Osds[osd]
	}
	c := api.Inc{Kind: 1 + r.Intn(6), Osd: osd}
	switch c.Kind {
	case 1, 2:
		c.Num = pick(r, o.Boot, o.Boot, o.Boot+1, o.Boot-1, o.Boot+1+r.Int63n(9))
	case 3:
		c.Num = pick(r, 0, 1, unit, o.Weight, wide, r.Int63n(wide+1))
	case 4:
		c.Num = pick(r, o.UpThru, o.UpThru+1, m.Epoch, m.Epoch+1, 1+r.Int63n(m.Epoch+2))
	case 5:
		c = api.Inc{Kind: 5, Pool: chancePool(r)}
	case 6:
		c = ban(r.Intn(4), 1+r.Int63n(40))
	}
	if c.Kind != 3 && c.Kind != 5 {
		c.Num = max(1, min(last, c.Num))
	}
	return c
}

// upset is a change with one field laid anew, mostly none.
func upset(r *rand.Rand, c api.Inc) api.Inc {
	n := pick(r, odd()...)
	switch r.Intn(8) {
	case 0:
		c.Kind = int(n)
	case 1:
		c.Osd = int(n)
	case 2:
		c.Client = int(n)
	case 3:
		c.Num = n
	case 4:
		c.Pool.Size = int(n)
	case 5:
		c.Pool.Min = int(n)
	case 6:
		c.Pool.PGs = int(n)
	case 7:
		c.Pool.Domain = int(n)
	}
	return c
}

// chanceHosts is hosts that are hosts.
func chanceHosts(r *rand.Rand) []int {
	l := make([]int, 1+r.Intn(8))
	for i := range l {
		l[i] = r.Intn(8)
	}
	return l
}

// noHosts is hosts that are none.
func noHosts() [][]int {
	l := [][]int{nil, {}, make([]int, 9), make([]int, 10), make([]int, 5000)}
	for _, n := range odd() {
		if n < 0 || n > 7 {
			l = append(l, []int{int(n)}, []int{int(n), 0}, []int{0, 7, int(n)}, []int{0, 1, 2, int(n), 4, 5, 6, 7})
		}
	}
	return l
}

// someHosts is hosts that are hosts, of one number to eight.
func someHosts() [][]int {
	l := [][]int{{0, 0, 1}, {7, 6, 5, 4, 3, 2, 1, 0}, {2, 2}}
	for n := 1; n <= 8; n++ {
		l = append(l, slices.Repeat([]int{n - 1}, n))
	}
	return l
}
