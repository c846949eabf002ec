package journal

import (
	"encoding/binary"
	"hash/crc32"
	"math/rand"
	"slices"
	"strings"
	"testing"

	"reef/api"
	"reef/sector"
)

const size = 64 // bytes of a sector

// head is what a record's first sector says of it.
type head struct {
	mark   byte
	number uint64
	count  uint32
	sum    uint32
}

// headOf is a record's head by the chapter's words, with the library's sum.
func headOf(number int64, rec string) head {
	h := head{mark: 1, number: uint64(number), count: uint32(len(rec))}
	twelve := binary.LittleEndian.AppendUint64(nil, h.number)
	twelve = binary.LittleEndian.AppendUint32(twelve, h.count)
	h.sum = crc32.Checksum(append(twelve, rec...), crc32.MakeTable(crc32.Castagnoli))
	return h
}

// padded is a sector's bytes, with zeros at the end.
func padded(b []byte) string {
	return string(b) + strings.Repeat("\x00", size-len(b))
}

// sectorsOf is the sectors of a record that has this head.
func sectorsOf(h head, rec string) []string {
	b := binary.LittleEndian.AppendUint64([]byte{h.mark}, h.number)
	b = binary.LittleEndian.AppendUint32(b, h.count)
	b = binary.LittleEndian.AppendUint32(b, h.sum)
	n := min(len(rec), 47)
	l := []string{padded(append(b, rec[:n]...))}
	for c := range slices.Chunk([]byte(rec[n:]), 55) {
		l = append(l, tail(2, h.number, string(c)))
	}
	return l
}

// tail is a sector that is not a record's first one.
func tail(mark byte, number uint64, s string) string {
	b := binary.LittleEndian.AppendUint64([]byte{mark}, number)
	return padded(append(b, s...))
}

// whole is the sectors of a whole record.
func whole(number int64, rec string) []string { return sectorsOf(headOf(number, rec), rec) }

// needByWords is how many sectors hold so many bytes, counted up.
func needByWords(n int) int {
	k := 1
	for room := 47; room < n; room += 55 {
		k++
	}
	return k
}

// number is what a sector has as its number, and whether it begins with 1 or 2 and the number is one.
func number(s string) (int64, bool) {
	n := int64(binary.LittleEndian.Uint64([]byte(s[1:9])))
	return n, (s[0] == 1 || s[0] == 2) && n >= 1 && n <= 1<<62
}

// recordAt is the record that is whole at the beginning of some sectors, its number, and how many it takes.
func recordAt(l []string) (string, int64, int, bool) {
	if len(l) == 0 || l[0][0] != 1 {
		return "", 0, 0, false
	}
	n, is := number(l[0])
	count := int(binary.LittleEndian.Uint32([]byte(l[0][9:13])))
	if !is || count > size*len(l) || needByWords(count) > len(l) {
		return "", 0, 0, false
	}
	l = l[:needByWords(count)]
	all := l[0][17:]
	for _, s := range l[1:] {
		if m, is := number(s); !is || m != n || s[0] != 2 {
			return "", 0, 0, false
		}
		all += s[9:]
	}
	rec := all[:count]
	sum := binary.LittleEndian.Uint32([]byte(l[0][13:17]))
	return rec, n, len(l), sum == headOf(n, rec).sum
}

// readByWords reads a row by the chapter's words: what stands, in how many sectors, and the next number.
func readByWords(row []string, first int64) ([]string, int, int64) {
	var l []string
	taken, least := 0, first
	for {
		rec, n, k, is := recordAt(row[taken:])
		if !is || n < least {
			break
		}
		l, taken, least = append(l, rec), taken+k, n+1
	}
	next := first
	for _, s := range row {
		if n, is := number(s); is {
			next = max(next, n+1)
		}
	}
	return l, taken, next
}

// roomByWords is how many bytes the next record may have, sought from above.
func roomByWords(sectors int, next int64) int {
	if next > 1<<62 {
		return -1
	}
	for n := size * sectors; n >= 0; n-- {
		if needByWords(n) <= sectors {
			return n
		}
	}
	return -1
}

// deviceOf is a device of n sectors, with these laid down from one on.
func deviceOf(n, from int, l ...string) *sector.Device {
	b := make([]byte, size*n)
	copy(b[size*from:], strings.Join(l, ""))
	return sector.Load(b)
}

// rowOf is the sectors of a row as a device has them, its cache over what is laid down.
func rowOf(t testing.TB, d *sector.Device, from, count int) []string {
	t.Helper()
	var l []string
	for k := range count {
		b, e := d.Read(from + k)
		if e != api.OK {
			t.Fatalf("Read(%d): %v", from+k, e)
		}
		l = append(l, string(b))
	}
	return l
}

// open opens what can be opened.
func open(t testing.TB, d *sector.Device, from, count int, first int64) (*Journal, []string) {
	t.Helper()
	j, l, e := Open(d, from, count, first)
	if e != api.OK || j == nil {
		t.Fatalf("Open(%d, %d, %d): %v", from, count, first, e)
	}
	return j, l
}

// wantOpen asks for these records.
func wantOpen(t testing.TB, d *sector.Device, from, count int, first int64, want ...string) *Journal {
	t.Helper()
	j, l := open(t, d, from, count, first)
	if !slices.Equal(l, want) {
		t.Fatalf("Open(%d, %d, %d): %.20q; want %.20q", from, count, first, l, want)
	}
	return j
}

// wantNoOpen asks for an error, and nothing beside it.
func wantNoOpen(t testing.TB, d *sector.Device, from, count int, first int64, err api.Errno) {
	t.Helper()
	if j, l, e := Open(d, from, count, first); j != nil || len(l) > 0 || e != err {
		t.Fatalf("Open(%d, %d, %d): %v, %q, %v; want %v", from, count, first, j, l, e, err)
	}
}

func wantAppend(t testing.TB, j *Journal, rec string, err api.Errno) {
	t.Helper()
	if e := j.Append(rec); e != err {
		t.Fatalf("Append of %d bytes: %v; want %v", len(rec), e, err)
	}
}

func wantNext(t testing.TB, j *Journal, next int64, room int) {
	t.Helper()
	if j.Next() != next || j.Room() != room {
		t.Fatalf("Next %d, Room %d; want %d, %d", j.Next(), j.Room(), next, room)
	}
}

// wantLaid asks for what is laid down: these sectors from one on, and zeros in all others.
func wantLaid(t testing.TB, d *sector.Device, from int, want ...string) {
	t.Helper()
	got, all := d.Image(), deviceOf(d.Sectors(), from, want...).Image()
	for k := range d.Sectors() {
		if x, y := got[size*k:size*k+size], all[size*k:size*k+size]; string(x) != string(y) {
			t.Fatalf("sector %d: %x; want %x", k, x, y)
		}
	}
}

// text is a record of n bytes, by chance.
func text(r *rand.Rand, n int) string {
	b := make([]byte, n)
	r.Read(b)
	return string(b)
}

// letters is a record of n bytes that no other length begins with, but for the shorter ones.
func letters(n int) string {
	b := make([]byte, n)
	for i := range b {
		b[i] = byte(7*i + i/256)
	}
	return string(b)
}
