package maps

import (
	"math/rand"
	"slices"
	"testing"

	"reef/api"
)

// P13.2, P13.3

func TestBoot(t *testing.T) {
	wantChange(t, plain(), boot(1, 3), func(m *api.Map) { m.Osds[1] = api.Osd{Boot: 3, Up: true, Weight: unit} })
	wantChange(t, plain(), boot(2, last), func(m *api.Map) { m.Osds[2] = api.Osd{Boot: last, Up: true, Weight: unit} })
	m := mixed()
	wantChange(t, m, boot(0, 4), func(m *api.Map) { m.Osds[0] = api.Osd{Boot: 4, Up: true, Weight: unit, UpThru: 8} }) // up already
	wantChange(t, m, boot(1, 1), func(m *api.Map) { m.Osds[1] = api.Osd{Boot: 1, Up: true} })
	wantChange(t, m, boot(2, 6), func(m *api.Map) { m.Osds[2] = api.Osd{Boot: 6, Up: true, Weight: 1, UpThru: 2} })
	wantNothing(t, m, boot(0, 3), boot(0, 2), boot(0, 1), boot(2, 5), boot(2, 4), boot(3, last), boot(3, 1))
	wantNothing(t, m, boot(4, 1), boot(7, last))
	wantNothing(t, plain(), boot(3, 1))
}

func TestDown(t *testing.T) {
	m := mixed()
	wantChange(t, m, down(0, 3), func(m *api.Map) { m.Osds[0] = api.Osd{Boot: 3, Weight: unit, UpThru: 8} })
	wantChange(t, m, down(3, last), func(m *api.Map) { m.Osds[3] = api.Osd{Boot: last, Weight: wide} })
	wantNothing(t, m, down(0, 2), down(0, 4), down(0, 1), down(3, last-1)) // another boot number
	wantNothing(t, m, down(2, 5), down(2, 4), down(2, 6), down(1, 1))      // it is down
	wantNothing(t, m, down(4, 3), down(7, 1))
}

func TestWeight(t *testing.T) {
	m := mixed()
	for _, n := range []int64{0, 1, unit - 1, unit + 1, wide} {
		wantChange(t, m, weigh(0, n), func(m *api.Map) { m.Osds[0].Weight = n })
	}
	wantChange(t, m, weigh(1, 7), func(m *api.Map) { m.Osds[1] = api.Osd{Weight: 7} }) // it never was up
	wantChange(t, m, weigh(2, 7), func(m *api.Map) { m.Osds[2].Weight = 7 })
	wantNothing(t, m, weigh(0, unit), weigh(1, 0), weigh(2, 1), weigh(3, wide))
	wantNothing(t, m, weigh(4, 1), weigh(7, 0))
	wantChange(t, with(plain(), func(m *api.Map) { m.Osds = []api.Osd{{Weight: 5}}; m.Hosts = []int{0} }), weigh(0, 0), func(m *api.Map) { m.Osds[0].Weight = 0 })
}

func TestThru(t *testing.T) {
	m := mixed()
	wantChange(t, m, thru(0, 9), func(m *api.Map) { m.Osds[0].UpThru = 9 })
	for _, n := range []int64{1, 5, 8, 9} {
		wantChange(t, m, thru(3, n), func(m *api.Map) { m.Osds[3].UpThru = n })
	}
	wantNothing(t, m, thru(0, 8), thru(0, 7), thru(0, 1))                   // not above what it has
	wantNothing(t, m, thru(0, 10), thru(3, 10), thru(3, 11), thru(3, last)) // not come yet
	wantNothing(t, m, thru(2, 3), thru(2, 9), thru(1, 1))                   // not up
	wantNothing(t, m, thru(4, 1), thru(7, 9))
	wantNothing(t, with(plain(), func(m *api.Map) { m.Osds[0] = api.Osd{Boot: 1, Up: true} }), thru(0, 1)) // epoch 0
	wantChange(t, full(), thru(6, end-1), func(m *api.Map) { m.Osds[6].UpThru = end - 1 })
	wantNothing(t, full(), thru(6, end))
}

func TestPoolIsLaidLast(t *testing.T) {
	a, b := pool(3, 2, 4, 2), pool(1, 1, 1, 1)
	wantChange(t, plain(), a, func(m *api.Map) { m.Pools = []api.Pool{a.Pool} })
	wantChange(t, mixed(), b, func(m *api.Map) { m.Pools = append(m.Pools, b.Pool) })
	has := with(plain(), func(m *api.Map) { m.Pools = []api.Pool{a.Pool} })
	wantChange(t, has, a, func(m *api.Map) { m.Pools = append(m.Pools, a.Pool) }) // the same once more
	wantNothing(t, full(), a, b, pool(3, 3, 8, 2))
	two := with(plain(), func(m *api.Map) { m.Pools = []api.Pool{b.Pool, a.Pool} })
	wantNothing(t, two, a, b)
}

func TestBan(t *testing.T) {
	wantChange(t, plain(), ban(0, 1), func(m *api.Map) { m.Bans = []api.Ban{{Inst: 1}} })
	wantChange(t, plain(), ban(3, last), func(m *api.Map) { m.Bans = []api.Ban{{Client: 3, Inst: last}} })
	m := mixed()
	for _, c := range []struct {
		at   int
		what api.Ban
	}{
		{0, api.Ban{Client: 0, Inst: 6}}, {0, api.Ban{Client: 0, Inst: 1}}, {1, api.Ban{Client: 0, Inst: 8}}, {1, api.Ban{Client: 0, Inst: last}},
		{1, api.Ban{Client: 1, Inst: 1}}, {2, api.Ban{Client: 1, Inst: 3}}, {3, api.Ban{Client: 1, Inst: 5}}, {3, api.Ban{Client: 1, Inst: 7}},
		{3, api.Ban{Client: 2, Inst: 1}}, {3, api.Ban{Client: 2, Inst: 7}}, {3, api.Ban{Client: 3, Inst: 1}}, {3, api.Ban{Client: 3, Inst: last - 1}},
	} {
		wantChange(t, m, ban(c.what.Client, c.what.Inst), func(m *api.Map) { m.Bans = slices.Insert(m.Bans, c.at, c.what) })
	}
	wantNothing(t, m, ban(0, 7), ban(1, 2), ban(1, 4), ban(3, last)) // twice
	wantNothing(t, full(), ban(0, 2), ban(3, last), ban(0, 1), ban(2, 40))
}

func TestLastBan(t *testing.T) {
	m := with(full(), func(m *api.Map) { m.Bans = m.Bans[:63] })
	wantChange(t, m, ban(3, 40), func(m *api.Map) { m.Bans = append(m.Bans, api.Ban{Client: 3, Inst: 40}) })
	wantChange(t, m, ban(0, 2), func(m *api.Map) { m.Bans = slices.Insert(m.Bans, 1, api.Ban{Client: 0, Inst: 2}) })
	wantNothing(t, m, ban(0, 1))
}

// What is no change lets the epoch alone go on.
func TestChangesThatAreNone(t *testing.T) {
	for _, m := range []api.Map{plain(), mixed(), full()} {
		wantNothing(t, m, api.Inc{}, api.Inc{Kind: 7, Num: 1}, api.Inc{Kind: -1, Num: 1}, api.Inc{Kind: 1 + 1<<32, Num: last})
		for _, c := range []api.Inc{boot(1, last), down(0, 3), weigh(0, 2), thru(0, 9), pool(2, 1, 3, 1), ban(2, 3)} {
			for i := range 8 {
				for _, n := range odd() {
					d := c
					at := []*int{&d.Kind, &d.Osd, &d.Client, &d.Pool.Size, &d.Pool.Min, &d.Pool.PGs, &d.Pool.Domain}
					if i < len(at) {
						*at[i] = int(n)
					} else {
						d.Num = n
					}
					if !incByWords(d) {
						wantNothing(t, m, d)
					}
				}
			}
		}
	}
}

// Behind the last epoch there is none.
func TestApplyAtTheLastEpoch(t *testing.T) {
	for _, m := range []api.Map{plain(), mixed(), full()} {
		m.Epoch = end
		for _, c := range []api.Inc{{}, boot(1, last), down(0, 3), weigh(0, 2), thru(0, 11), pool(2, 1, 3, 1), ban(2, 50)} {
			in := laid(m)
			got := Apply(in, c)
			if !alike(got, m) {
				t.Fatalf("Apply(%+v, %+v): %+v", m, c, got)
			}
			spoil(got)
			wantLaid(t, in, m)
		}
	}
}

func TestChancesByWords(t *testing.T) {
	r := rand.New(rand.NewSource(1))
	for range 60 {
		m := First(chanceHosts(r))
		if r.Intn(8) == 0 {
			m.Epoch = end - 20
		}
		for range 120 {
			c := chanceInc(r, m)
			if r.Intn(4) == 0 {
				c = upset(r, c)
			}
			if m.Epoch == end {
				break
			}
			want, changes := applyByWords(m, c)
			wantApply(t, m, c, want, changes)
			m = want
		}
	}
}

// Of maps that are not fit nothing is promised but that the calls end.
func TestUnfitMaps(t *testing.T) {
	maps := []api.Map{
		{}, {Epoch: -5}, {Epoch: 1 << 62}, {Epoch: -1 << 63}, {Hosts: []int{1, 2}}, {Osds: []api.Osd{{}}}, {Hosts: make([]int, 20), Osds: make([]api.Osd, 20)},
		with(mixed(), func(m *api.Map) { m.Osds = m.Osds[:1] }), with(mixed(), func(m *api.Map) { slices.Reverse(m.Bans) }),
		with(mixed(), func(m *api.Map) { m.Pools = make([]api.Pool, 9) }), with(mixed(), func(m *api.Map) { m.Bans = make([]api.Ban, 90) }),
	}
	for _, m := range maps {
		for _, c := range []api.Inc{{}, boot(7, 1), boot(0, last), down(7, 3), down(0, 3), weigh(7, 2), thru(7, 9), thru(0, 9), pool(2, 1, 3, 1), ban(2, 3)} {
			in := laid(m)
			Changes(in, c)
			spoil(Apply(in, c))
			wantLaid(t, in, m)
		}
		Up(m)
		Banned(m, api.Ban{Client: 1, Inst: 4})
	}
}
