package kv

import (
	"maps"
	"math"
	"math/rand"
	"slices"
	"strings"
	"testing"

	"reef/api"
	"reef/sector"
)

// act is a call that writes, from pairs to others.
type act struct {
	name   string
	do     func(*DB) api.Errno
	begins bool // it begins a generation
	want   []api.Pair
}

// Of a row of 22 sectors an area has 10; from is what is there ahead of each act.
var (
	rowOfActs = place{1, 22}
	from      = pr("a", "old", "b", strings.Repeat("o", 130))
	big       = strings.Repeat("n", 160)
)

var acts = []act{
	{"a commit", func(b *DB) api.Errno { return b.Commit([]string{"b"}, pr("a", big, "c", "1")) }, false, pr("a", big, "c", "1")},
	{"a short commit", func(b *DB) api.Errno { return b.Commit(nil, pr("a", "new")) }, false, pr("a", "new", from[1].Key, from[1].Value)},
	{"a long commit", func(b *DB) api.Errno { return b.Commit([]string{"b"}, pr("a", big+big)) }, true, pr("a", big+big)},
	{"a turn", (*DB).Turn, true, from},
}

// before is devices with a DB on which an act is to be done: of an odd generation, of an even one, and one that the power cut short ahead of it, when it wanted to begin the next.
func before(t *testing.T) []*sector.Device {
	t.Helper()
	d := sector.New(24)
	b := format(t, d, rowOfActs)
	wantCommit(t, b, nil, from[1:], api.OK)
	wantCommit(t, b, nil, from[:1], api.OK)
	l := []*sector.Device{sector.Load(d.Image())}
	wantTurn(t, b, api.OK)
	wantCommit(t, b, nil, pr("b", from[1].Value), api.OK)
	l = append(l, sector.Load(d.Image()))
	d.Cut(2, 0b10)
	wantTurn(t, b, api.ErrDead)
	return append(l, sector.Load(d.Image()))
}

// wantEither opens behind a loss and asks for one of two lists; it tells which.
func wantEither(t *testing.T, d *sector.Device, g int64, x act) (*DB, bool) {
	t.Helper()
	b := open(t, d, rowOfActs)
	if slices.Equal(b.Range("", ""), x.want) && (!x.begins || b.Generation() == g+1) {
		want(t, b, b.Generation(), x.want)
		return b, true
	}
	want(t, b, g, from)
	return b, false
}

// wantGoesOn asks of a DB that was opened that it goes on.
func wantGoesOn(t *testing.T, d *sector.Device, b *DB) {
	t.Helper()
	have := would(map[string]string{}, nil, b.Range("", ""))
	for _, sets := range [][]api.Pair{pr("y", "1"), pr("z", big), pr("y", big), pr("z", "2")} {
		wantCommit(t, b, nil, sets, api.OK)
		have = would(have, nil, sets)
		want(t, b, b.Generation(), listOf(have))
		wantOpen(t, d, rowOfActs, b.Generation(), listOf(have))
	}
	wantTurn(t, b, api.OK)
	wantOpen(t, d, rowOfActs, b.Generation(), listOf(have))
}

// P8.6

// Each write of each act finds the power going, with picks of all kinds.
func TestPowerAtEachWrite(t *testing.T) {
	for _, x := range acts {
		for _, start := range before(t) {
			image := start.Image()
			whole := open(t, start, rowOfActs)
			g := whole.Generation()
			if e := x.do(whole); e != api.OK || x.begins != (whole.Generation() == g+1) {
				t.Fatalf("%s: %v", x.name, e)
			}
			want(t, whole, whole.Generation(), x.want)
			writes, flushes := start.Writes()
			if flushes != map[bool]int{false: 1, true: 2}[x.begins] {
				t.Fatalf("%s: %d flushes", x.name, flushes)
			}
			for cut := range writes {
				for _, pick := range picks(cut) {
					d := sector.Load(image)
					b := open(t, d, rowOfActs)
					d.Cut(cut, pick)
					if e := x.do(b); e != api.ErrDead || !d.Dead() {
						t.Fatalf("%s, behind %d writes: %v", x.name, cut, e)
					}
					want(t, b, g, from)
					d.On()
					wantNoUse(t, d, b, g, from)
					c, done := wantEither(t, d, g, x)
					if done {
						t.Fatalf("%s is there behind %d writes of %d", x.name, cut, writes)
					}
					wantGoesOn(t, d, c)
				}
			}
			d := sector.Load(image)
			b := open(t, d, rowOfActs)
			d.Cut(writes, 0)
			if e := x.do(b); e != api.OK {
				t.Fatalf("%s, with a cut behind it: %v", x.name, e)
			}
			d.Lose(0)
			want(t, b, whole.Generation(), x.want)
			d.On()
			wantOpen(t, d, rowOfActs, whole.Generation(), x.want)
		}
	}
}

// picks is all picks of up to so many sectors, or some of them.
func picks(sectors int) []uint64 {
	l := []uint64{math.MaxUint64}
	if sectors > 4 {
		return append(l, 0, 1, 2, 1<<(sectors-1), 1<<(sectors-1)-1, 0x5555, 0xaaaa, 1<<63)
	}
	for pick := range uint64(1) << sectors {
		l = append(l, pick)
	}
	return l
}

// changed is the sectors that an act wrote anew, from one on to below another one.
func changed(old, now []byte, from, end int) []int {
	var l []int
	for k := from; k < end; k++ {
		if sectorOf(old, k) != sectorOf(now, k) {
			l = append(l, k)
		}
	}
	return l
}

// mixed is an image with some of these sectors as another one has them.
func mixed(old, now []byte, l []int, pick uint64) []byte {
	image := slices.Clone(old)
	for i, k := range l {
		if pick>>i&1 == 1 {
			copy(image[size*k:], sectorOf(now, k))
		}
	}
	return image
}

// The power goes ahead of each flush, all its sectors being written: any of them may have been laid down.
func TestPowerAtEachFlush(t *testing.T) {
	for _, x := range acts {
		for _, start := range before(t) {
			old := start.Image()
			b := open(t, start, rowOfActs)
			g := b.Generation()
			if e := x.do(b); e != api.OK {
				t.Fatalf("%s: %v", x.name, e)
			}
			now := start.Image()
			heads := rowOfActs.from + 2
			l := changed(old, now, heads, rowOfActs.from+rowOfActs.count)
			for pick := range uint64(1) << len(l) {
				d := sector.Load(mixed(old, now, l, pick))
				c, done := wantEither(t, d, g, x)
				all := pick == 1<<len(l)-1
				if done != (all && !x.begins) {
					t.Fatalf("%s, by the pick %b of %d: %v", x.name, pick, l, done)
				}
				wantGoesOn(t, d, c)
			}
			// The head alone is behind the second flush's wall: all of the area is laid down then.
			if h := changed(old, now, rowOfActs.from, heads); len(h) != map[bool]int{true: 1}[x.begins] {
				t.Fatalf("%s: heads %d", x.name, h)
			}
			wantOpen(t, sector.Load(now), rowOfActs, b.Generation(), x.want)
		}
	}
}

// The power goes in what comes behind a loss, again and again, at writes by chance: what is there is what was told, or what the call in which it went would have come to.
func TestPowerByChance(t *testing.T) {
	r := rand.New(rand.NewSource(84))
	for range 300 {
		p := place{r.Intn(3), 6 + r.Intn(34)}
		d := sector.New(44)
		b := format(t, d, p)
		have := map[string]string{}
		for range 60 {
			gone, sets := commitByChance(r)
			turn := r.Intn(8) == 0
			next := would(have, gone, sets)
			if turn {
				next = have
			}
			if r.Intn(3) == 0 {
				d.Cut(r.Intn(9), r.Uint64())
			}
			var e api.Errno
			if turn {
				e = b.Turn()
			} else {
				e = b.Commit(gone, sets)
			}
			switch e {
			case api.OK:
				have = next
			case api.ErrDead:
				want(t, b, b.Generation(), listOf(have))
				d.On()
				b = open(t, d, p)
				if slices.Equal(b.Range("", ""), listOf(next)) {
					have = next
				}
			case api.ErrSpace:
			default:
				t.Fatalf("%v", e)
			}
			d.Cut(-1, 0)
			if r.Intn(10) == 0 { // it goes between two calls
				d.Lose(r.Uint64())
				d.On()
			}
			want(t, b, b.Generation(), listOf(have))
			wantOpen(t, d, p, b.Generation(), listOf(have))
		}
	}
}

// P8.8

func TestPairsByChance(t *testing.T) {
	r := rand.New(rand.NewSource(85))
	for range 200 {
		p := place{r.Intn(3), 20 + r.Intn(200)}
		d := sector.New(230)
		b := format(t, d, p)
		have := map[string]string{}
		for range 80 {
			gone, sets := commitByChance(r)
			sets = append(sets, api.Pair{Key: chance(r, r.Intn(3)), Value: chance(r, r.Intn(5))})
			ahead := maps.Clone(have)
			switch b.Commit(gone, sets) {
			case api.OK:
				have = would(have, gone, sets)
			case api.ErrSpace:
			default:
				t.Fatal("Commit")
			}
			for key, v := range ahead {
				w, is := have[key]
				if !is {
					wantGet(t, b, key, "", false)
				} else if v == w {
					wantGet(t, b, key, v, true)
				}
			}
			want(t, b, b.Generation(), listOf(have))
		}
		wantOpen(t, d, p, b.Generation(), listOf(have))
	}
}
