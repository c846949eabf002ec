package store

import (
	"encoding/binary"
	"maps"
	"math/rand"
	"slices"
	"strings"
	"testing"

	"reef/api"
	"reef/kv"
	"reef/sector"
)

const size = 64 // bytes of a sector, and of the longest short value

func num(n uint64) string { return string(binary.AppendUvarint(nil, n)) }

func txt(s string) string { return num(uint64(len(s))) + s }

// shortBytes is what a key has of a short value, by the chapter's words.
func shortBytes(s string) string { return "\x00" + txt(s) }

// longBytes is what a key has of a long value: its length, and the extents, an At and a Num each.
func longBytes(length uint64, extents ...uint64) string {
	s := "\x01" + num(length) + num(uint64(len(extents)/2))
	for _, x := range extents {
		s += num(x)
	}
	return s
}

// sets is changes that set names and values that take turns.
func sets(s ...string) []api.Put {
	var l []api.Put
	for c := range slices.Chunk(s, 2) {
		l = append(l, api.Put{Name: c[0], Value: c[1]})
	}
	return l
}

// goes is changes that take names out.
func goes(names ...string) []api.Put {
	var l []api.Put
	for _, name := range names {
		l = append(l, api.Put{Name: name, Gone: true})
	}
	return l
}

// pr is pairs of keys and values that take turns.
func pr(s ...string) []api.Pair {
	var l []api.Pair
	for c := range slices.Chunk(s, 2) {
		l = append(l, api.Pair{Key: c[0], Value: c[1]})
	}
	return l
}

// ex is extents, an At and a Num each.
func ex(n ...int) []api.Extent {
	var l []api.Extent
	for c := range slices.Chunk(n, 2) {
		l = append(l, api.Extent{At: c[0], Num: c[1]})
	}
	return l
}

// body is a text of n bytes, of which no two sectors are alike, nor are those of two seeds.
func body(n int, seed byte) string {
	b := make([]byte, n)
	for i := range b {
		b[i] = seed + byte(i) + byte(i/size)*37
	}
	return string(b)
}

// chance is a text of n bytes, by chance.
func chance(r *rand.Rand, n int) string {
	b := make([]byte, n)
	r.Read(b)
	return string(b)
}

// model is a store by the chapter's words: the values, in which sectors the long ones lie, and which ones are free.
type model struct {
	values map[string]string
	places map[string][]int
	free   []bool
}

func empty(total int) model {
	return model{map[string]string{}, map[string][]int{}, slices.Repeat([]bool{true}, total)}
}

// run is how many free sectors stand in a row, from one on.
func run(free []bool, at int) int {
	n := 0
	for at+n < len(free) && free[at+n] {
		n++
	}
	return n
}

// take takes n sectors out of free ones, by chapter 9; none, if there are not so many.
func take(free []bool, n int) []int {
	var l []int
	for at := 0; at < len(free); at++ {
		if k := run(free, at); k >= n {
			l = nil
			for i := range n {
				l = append(l, at+i)
			}
			break
		} else if k > 0 {
			for i := range k {
				l = append(l, at+i)
			}
			at += k
		}
	}
	if len(l) < n {
		return nil
	}
	for _, k := range l[:n] {
		free[k] = false
	}
	return l[:n]
}

// made is what an Apply comes to, by the chapter's words: the model behind it, and what is written and committed.
type made struct {
	model
	longs []string // names
	gone  []string
	sets  []api.Pair
}

// apply is what an Apply comes to, as far as the data sectors have the room.
func (m model) apply(l []api.Put) (made, bool) {
	x := made{model: model{maps.Clone(m.values), maps.Clone(m.places), slices.Clone(m.free)}}
	last := map[string]api.Put{}
	for _, p := range l {
		last[p.Name] = p
	}
	for _, name := range slices.Sorted(maps.Keys(last)) {
		p := last[name]
		if p.Gone {
			if _, is := m.values[name]; is {
				x.gone = append(x.gone, name)
			}
			continue
		}
		delete(x.places, name)
		if len(p.Value) > size {
			at := take(x.free, (len(p.Value)+size-1)/size)
			if at == nil {
				return made{}, false
			}
			x.places[name] = at
			x.longs = append(x.longs, name)
		}
		x.values[name] = p.Value
		x.sets = append(x.sets, api.Pair{Key: name, Value: x.key(name)})
	}
	for _, name := range x.gone {
		delete(x.values, name)
		delete(x.places, name)
	}
	for name := range last {
		for _, k := range m.places[name] {
			x.free[k] = true
		}
	}
	return x, true
}

// where is the extents in which a value lies.
func (m model) where(name string) []api.Extent {
	var l []api.Extent
	for _, k := range m.places[name] {
		if n := len(l) - 1; n >= 0 && l[n].At+l[n].Num == k {
			l[n].Num++
			continue
		}
		l = append(l, api.Extent{At: k, Num: 1})
	}
	return l
}

// key is what a name's key has.
func (m model) key(name string) string {
	v := m.values[name]
	if len(v) <= size {
		return shortBytes(v)
	}
	var l []uint64
	for _, x := range m.where(name) {
		l = append(l, uint64(x.At), uint64(x.Num))
	}
	return longBytes(uint64(len(v)), l...)
}

// byHand does on a device what an Apply is to do there.
func (x made) byHand(d *sector.Device, keys *kv.DB, head int) api.Errno {
	for _, name := range x.longs {
		for i, s := range padded(x.values[name]) {
			if e := d.Write(head+x.places[name][i], []byte(s)); e != api.OK {
				return e
			}
		}
	}
	if len(x.longs) > 0 {
		d.Flush()
	}
	return keys.Commit(x.gone, x.sets)
}

// padded is a value as sectors, with zeros at the end.
func padded(v string) []string {
	var l []string
	for c := range slices.Chunk([]byte(v), size) {
		l = append(l, string(c)+strings.Repeat("\x00", size-len(c)))
	}
	return l
}

// sectorOf is what is laid down in a sector.
func sectorOf(image []byte, k int) string { return string(image[size*k : size*k+size]) }

func format(t testing.TB, d *sector.Device, head int) *Store {
	t.Helper()
	s, e := Format(d, head)
	if e != api.OK || s == nil {
		t.Fatalf("Format(%d): %v", head, e)
	}
	return s
}

func open(t testing.TB, d *sector.Device, head int) *Store {
	t.Helper()
	s, e := Open(d, head)
	if e != api.OK || s == nil {
		t.Fatalf("Open(%d): %v", head, e)
	}
	return s
}

func openKeys(t testing.TB, d *sector.Device, head int) *kv.DB {
	t.Helper()
	b, e := kv.Open(d, 0, head)
	if e != api.OK {
		t.Fatalf("the keys: %v", e)
	}
	return b
}

// forged is a device whose keys have these pairs.
func forged(t testing.TB, sectors, head int, l ...api.Pair) *sector.Device {
	t.Helper()
	d := sector.New(sectors)
	b, e := kv.Format(d, 0, head)
	if e != api.OK || b.Commit(nil, l) != api.OK {
		t.Fatalf("no keys can be forged: %v", e)
	}
	return d
}

func wantApply(t testing.TB, s *Store, l []api.Put, err api.Errno) {
	t.Helper()
	if e := s.Apply(l); e != err {
		t.Fatalf("Apply(%.60v): %v; want %v", l, e, err)
	}
}

func wantGet(t testing.TB, s *Store, name, v string, err api.Errno) {
	t.Helper()
	if got, e := s.Get(name); got != v || e != err {
		t.Fatalf("Get(%q): %d bytes %.40q, %v; want %d %.40q, %v", name, len(got), got, e, len(v), v, err)
	}
}

func wantWhere(t testing.TB, s *Store, name string, l ...int) {
	t.Helper()
	if got := s.Where(name); !slices.Equal(got, ex(l...)) {
		t.Fatalf("Where(%q): %d; want %d", name, got, l)
	}
}

func wantFree(t testing.TB, s *Store, n int) {
	t.Helper()
	if got := s.Free(); got != n || !s.Sound() {
		t.Fatalf("Free: %d, Sound: %v; want %d, true", got, s.Sound(), n)
	}
}

// want asks for just what a model has, in whatever way it is asked for.
func want(t testing.TB, s *Store, m model) {
	t.Helper()
	names := slices.Sorted(maps.Keys(m.values))
	if l := s.Names("", ""); !slices.Equal(l, names) {
		t.Fatalf("Names: %.40q; want %.40q", l, names)
	}
	for name, v := range m.values {
		wantGet(t, s, name, v, api.OK)
		if l := s.Where(name); !slices.Equal(l, m.where(name)) {
			t.Fatalf("Where(%q): %d; want %d", name, l, m.where(name))
		}
	}
	left := 0
	for _, is := range m.free {
		if is {
			left++
		}
	}
	wantFree(t, s, left)
}

// wantLaid asks for what a model has on the device itself.
func wantLaid(t testing.TB, d *sector.Device, head int, m model) {
	t.Helper()
	var l []api.Pair
	for _, name := range slices.Sorted(maps.Keys(m.values)) {
		l = append(l, api.Pair{Key: name, Value: m.key(name)})
	}
	if got := openKeys(t, d, head).Range("", ""); !slices.Equal(got, l) {
		t.Fatalf("the keys: %.80q; want %.80q", got, l)
	}
	image := d.Image()
	for name, at := range m.places {
		for i, x := range padded(m.values[name]) {
			if got := sectorOf(image, head+at[i]); got != x {
				t.Fatalf("%q has in its sector %d: %q; want %q", name, i, got, x)
			}
		}
	}
	if l := d.Dirty(); len(l) > 0 {
		t.Fatalf("in the cache: %d", l)
	}
}

// wantAlike asks that two devices have the same, and have come to it by as many writes and flushes.
func wantAlike(t testing.TB, d, twin *sector.Device) {
	t.Helper()
	a, b := d.Image(), twin.Image()
	for k := range d.Sectors() {
		if x, y := sectorOf(a, k), sectorOf(b, k); x != y {
			t.Fatalf("sector %d: %x; want %x", k, x, y)
		}
	}
	w, f := d.Writes()
	v, g := twin.Writes()
	if w != v || f != g || d.Dead() != twin.Dead() || !slices.Equal(d.Dirty(), twin.Dirty()) {
		t.Fatalf("%d writes, %d flushes, power gone: %v; want %d, %d, %v", w, f, d.Dead(), v, g, twin.Dead())
	}
}

// wantSilent asks that something writes nothing.
func wantSilent(t testing.TB, d *sector.Device, do func()) {
	t.Helper()
	image, dirty := d.Image(), d.Dirty()
	writes, flushes := d.Writes()
	do()
	w, f := d.Writes()
	if w != writes || f != flushes || string(image) != string(d.Image()) || !slices.Equal(dirty, d.Dirty()) {
		t.Fatalf("%d writes, %d flushes", w-writes, f-flushes)
	}
}

// wantDone applies changes to a store and to its model, and asks that both come to the same, there and on the device.
func wantDone(t testing.TB, d *sector.Device, s *Store, m model, l []api.Put) model {
	t.Helper()
	x, is := m.apply(l)
	if !is {
		t.Fatal("the model has no room")
	}
	wantApply(t, s, l, api.OK)
	want(t, s, x.model)
	wantLaid(t, d, s.data.head, x.model)
	want(t, open(t, d, s.data.head), x.model)
	return x.model
}
