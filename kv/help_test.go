package kv

import (
	"encoding/binary"
	"hash/crc32"
	"maps"
	"math/rand"
	"slices"
	"strings"
	"testing"

	"reef/api"
	"reef/journal"
	"reef/sector"
)

const size = 64 // bytes of a sector

// place is a row of sectors, by the chapter's words.
type place struct{ from, count int }

// area is the first sector of a generation's area, and how many it has.
func (p place) area(g int64) (int, int) {
	n := (p.count - 2) / 2
	if g%2 == 0 {
		return p.from + 2, n
	}
	return p.from + 2 + n, n
}

// headAt is the sector of a generation's head.
func (p place) headAt(g int64) int {
	if g%2 == 0 {
		return p.from
	}
	return p.from + 1
}

func num(n int) string { return string(binary.AppendUvarint(nil, uint64(n))) }

func txt(s string) string { return num(len(s)) + s }

func pairsBytes(l []api.Pair) string {
	s := num(len(l))
	for _, p := range l {
		s += txt(p.Key) + txt(p.Value)
	}
	return s
}

func checkpointBytes(l ...api.Pair) string { return "\x01" + pairsBytes(l) }

func commitBytes(gone []string, sets ...api.Pair) string {
	s := "\x02" + num(len(gone))
	for _, key := range gone {
		s += txt(key)
	}
	return s + pairsBytes(sets)
}

// padded is a sector's bytes, with zeros at the end.
func padded(b []byte) string { return string(b) + strings.Repeat("\x00", size-len(b)) }

func sumOf(b []byte) uint32 { return crc32.Checksum(b, crc32.MakeTable(crc32.Castagnoli)) }

// headBytes is a head's sector.
func headBytes(g, number int64) string {
	b := binary.LittleEndian.AppendUint64([]byte("KVHD"), uint64(g))
	b = binary.LittleEndian.AppendUint64(b, uint64(number))
	return padded(binary.LittleEndian.AppendUint32(b, sumOf(b)))
}

// recordSectors is the sectors of a journal's record, by chapter 7.
func recordSectors(number int64, rec string) []string {
	n := binary.LittleEndian.AppendUint64(nil, uint64(number))
	twelve := binary.LittleEndian.AppendUint32(slices.Clone(n), uint32(len(rec)))
	first := binary.LittleEndian.AppendUint32(append([]byte{1}, twelve...), sumOf(append(twelve, rec...)))
	cut := min(len(rec), 47)
	l := []string{padded(append(first, rec[:cut]...))}
	for c := range slices.Chunk([]byte(rec[cut:]), 55) {
		l = append(l, padded(slices.Concat([]byte{2}, n, c)))
	}
	return l
}

// pr is pairs of keys and values that take turns.
func pr(s ...string) []api.Pair {
	var l []api.Pair
	for c := range slices.Chunk(s, 2) {
		l = append(l, api.Pair{Key: c[0], Value: c[1]})
	}
	return l
}

// listOf is what a map has, rising by key.
func listOf(m map[string]string) []api.Pair {
	var l []api.Pair
	for _, key := range slices.Sorted(maps.Keys(m)) {
		l = append(l, api.Pair{Key: key, Value: m[key]})
	}
	return l
}

// would is what a commit makes of a map.
func would(m map[string]string, gone []string, sets []api.Pair) map[string]string {
	out := maps.Clone(m)
	for _, key := range gone {
		delete(out, key)
	}
	for _, p := range sets {
		out[p.Key] = p.Value
	}
	return out
}

func format(t testing.TB, d *sector.Device, p place) *DB {
	t.Helper()
	b, e := Format(d, p.from, p.count)
	if e != api.OK || b == nil {
		t.Fatalf("Format(%d, %d): %v", p.from, p.count, e)
	}
	return b
}

func open(t testing.TB, d *sector.Device, p place) *DB {
	t.Helper()
	b, e := Open(d, p.from, p.count)
	if e != api.OK || b == nil {
		t.Fatalf("Open(%d, %d): %v", p.from, p.count, e)
	}
	return b
}

// wantOpen asks for these pairs, in any order, of this generation.
func wantOpen(t testing.TB, d *sector.Device, p place, g int64, l []api.Pair) *DB {
	t.Helper()
	b := open(t, d, p)
	want(t, b, g, l)
	return b
}

// wantNoOpen asks for an error, and nothing beside it.
func wantNoOpen(t testing.TB, d *sector.Device, p place, err api.Errno) {
	t.Helper()
	if b, e := Open(d, p.from, p.count); b != nil || e != err {
		t.Fatalf("Open(%d, %d): %v, %v; want %v", p.from, p.count, b, e, err)
	}
}

// want asks for just these pairs, in whatever way they are asked for.
func want(t testing.TB, b *DB, g int64, l []api.Pair) {
	t.Helper()
	m := would(map[string]string{}, nil, l)
	l = listOf(m)
	if all := b.Range("", ""); !slices.Equal(all, l) {
		t.Fatalf("pairs %.40q; want %.40q", all, l)
	}
	if b.Len() != len(l) || b.Generation() != g {
		t.Fatalf("%d pairs, generation %d; want %d, %d", b.Len(), b.Generation(), len(l), g)
	}
	for key, v := range m {
		wantGet(t, b, key, v, true)
		if _, is := m[key+"\x00"]; !is {
			wantGet(t, b, key+"\x00", "", false)
		}
	}
}

func wantGet(t testing.TB, b *DB, key, value string, is bool) {
	t.Helper()
	if v, ok := b.Get(key); v != value || ok != is {
		t.Fatalf("Get(%q): %.40q, %v; want %.40q, %v", key, v, ok, value, is)
	}
}

func wantCommit(t testing.TB, b *DB, gone []string, sets []api.Pair, err api.Errno) {
	t.Helper()
	if e := b.Commit(gone, sets); e != err {
		t.Fatalf("Commit(%.40q, %.40q): %v; want %v", gone, sets, e, err)
	}
}

func wantTurn(t testing.TB, b *DB, err api.Errno) {
	t.Helper()
	if e := b.Turn(); e != err {
		t.Fatalf("Turn: %v; want %v", e, err)
	}
}

// write writes sectors as they are handed in, and flushes.
func write(t testing.TB, d *sector.Device, from int, l ...string) {
	t.Helper()
	for i, s := range l {
		if e := d.Write(from+i, []byte(s)); e != api.OK {
			t.Fatalf("Write(%d): %v", from+i, e)
		}
	}
	d.Flush()
}

// forged is a device on whose row a generation stands with these records, numbered from one on.
func forged(t testing.TB, sectors int, p place, g, first int64, recs ...string) *sector.Device {
	t.Helper()
	d := sector.New(sectors)
	forge(t, d, p, g, first, recs...)
	return d
}

func forge(t testing.TB, d *sector.Device, p place, g, first int64, recs ...string) {
	t.Helper()
	at, n := p.area(g)
	left := n
	for i, rec := range recs {
		l := recordSectors(first+int64(i), rec)
		if left -= len(l); left < 0 {
			t.Fatal("no room to forge")
		}
		write(t, d, at, l...)
		at += len(l)
	}
	write(t, d, p.headAt(g), headBytes(g, first))
}

// wantRecords asks for the records of a generation's area.
func wantRecords(t testing.TB, d *sector.Device, p place, g, first int64, want ...string) {
	t.Helper()
	at, n := p.area(g)
	_, l, e := journal.Open(d, at, n, first)
	if e != api.OK || !slices.Equal(l, want) {
		t.Fatalf("records of generation %d: %.60q, %v; want %.60q", g, l, e, want)
	}
}

// sectorOf is what is laid down in a sector.
func sectorOf(image []byte, k int) string { return string(image[size*k : size*k+size]) }

// wantLaid asks for what is laid down: these bytes, and nothing in the cache.
func wantLaid(t testing.TB, d *sector.Device, image []byte) {
	t.Helper()
	got := d.Image()
	for k := range d.Sectors() {
		if x, y := sectorOf(got, k), sectorOf(image, k); x != y {
			t.Fatalf("sector %d: %x; want %x", k, x, y)
		}
	}
	if l := d.Dirty(); len(l) > 0 {
		t.Fatalf("in the cache: %d", l)
	}
}

// wantSilent asks that something writes nothing.
func wantSilent(t testing.TB, d *sector.Device, do func()) {
	t.Helper()
	image, dirty := d.Image(), d.Dirty()
	writes, flushes := d.Writes()
	do()
	w, f := d.Writes()
	if w != writes || f != flushes || string(image) != string(d.Image()) || !slices.Equal(dirty, d.Dirty()) {
		t.Fatalf("%d writes, %d flushes", w-writes, f-flushes)
	}
}

// chance is a text of n bytes, by chance.
func chance(r *rand.Rand, n int) string {
	b := make([]byte, n)
	r.Read(b)
	return string(b)
}
