package kv

import (
	"encoding/binary"
	"math/rand"
	"strings"
	"testing"

	"reef/api"
	"reef/sector"
)

// model is a row by the chapter's words, sector by sector, and what its DB has.
type model struct {
	p       place
	sectors []string
	g       int64
	next    int64
	at      int // the sector of the current area where the next record begins
	have    map[string]string
}

// used is the greatest number of a generation's area.
func (m *model) used(g int64) int64 {
	var most int64
	at, n := m.p.area(g)
	for _, s := range m.sectors[at : at+n] {
		x := int64(binary.LittleEndian.Uint64([]byte(s[1:9])))
		if (s[0] == 1 || s[0] == 2) && x >= 1 && x <= 1<<62 {
			most = max(most, x)
		}
	}
	return most
}

// lay lays a record into a generation's area, if it has room, and tells whether it had.
func (m *model) lay(g int64, at int, number int64, rec string) bool {
	from, n := m.p.area(g)
	l := recordSectors(number, rec)
	if at+len(l) > from+n {
		return false
	}
	copy(m.sectors[at:], l)
	return true
}

// begin begins the next generation.
func (m *model) begin(have map[string]string) api.Errno {
	g := m.g + 1
	at, _ := m.p.area(g)
	n := max(m.next, m.used(g)+1)
	rec := checkpointBytes(listOf(have)...)
	if !m.lay(g, at, n, rec) {
		return api.ErrSpace
	}
	m.sectors[m.p.headAt(g)] = headBytes(g, n)
	m.g, m.next, m.at, m.have = g, n+1, at+len(recordSectors(n, rec)), have
	return api.OK
}

func (m *model) commit(gone []string, sets []api.Pair) api.Errno {
	rec := commitBytes(gone, sets...)
	have := would(m.have, gone, sets)
	if !m.lay(m.g, m.at, m.next, rec) {
		return m.begin(have)
	}
	m.at, m.next, m.have = m.at+len(recordSectors(m.next, rec)), m.next+1, have
	return api.OK
}

func (m *model) want(t *testing.T, d *sector.Device, b *DB) {
	t.Helper()
	want(t, b, m.g, listOf(m.have))
	wantLaid(t, d, []byte(strings.Join(m.sectors, "")))
	wantOpen(t, d, m.p, m.g, listOf(m.have))
}

// modelOf is a device by chance, a DB that was formatted on a row of it, and its model.
func modelOf(t *testing.T, r *rand.Rand) (*model, *sector.Device, *DB) {
	m := &model{p: place{r.Intn(4), 6 + r.Intn(30)}, next: 1}
	image := []byte(chance(r, size*(m.p.from+m.p.count+r.Intn(3))))
	d := sector.Load(image)
	for k := range d.Sectors() {
		m.sectors = append(m.sectors, sectorOf(image, k))
		if k >= m.p.from && k < m.p.from+m.p.count {
			m.sectors[k] = padded(nil)
		}
	}
	if e := m.begin(map[string]string{}); e != api.OK {
		t.Fatalf("the model can't begin: %v", e)
	}
	return m, d, format(t, d, m.p)
}

// P8.1 to P8.5: each call answers, and lays down, what the chapter's words come to.
func TestByWords(t *testing.T) {
	r := rand.New(rand.NewSource(86))
	ends := map[api.Errno]int{}
	var turns int64
	for range 200 {
		m, d, b := modelOf(t, r)
		m.want(t, d, b)
		for range 40 {
			if r.Intn(10) == 0 { // what nobody reads any more, but for its number
				at, n := m.p.area(m.g + 1)
				k := at + r.Intn(n)
				m.sectors[k] = recordSectors(m.next+r.Int63n(5)-2, chance(r, 100))[r.Intn(2)]
				write(t, d, k, m.sectors[k])
			}
			var e, f api.Errno
			if r.Intn(9) == 0 {
				e, f = b.Turn(), m.begin(m.have)
			} else {
				gone, sets := commitByChance(r)
				e, f = b.Commit(gone, sets), m.commit(gone, sets)
			}
			if e != f {
				t.Fatalf("%v; want %v", e, f)
			}
			ends[e]++
			m.want(t, d, b)
		}
		turns += m.g
	}
	if ends[api.OK] < 1000 || ends[api.ErrSpace] < 100 || turns < 1000 {
		t.Fatalf("not all was tried: %v, %d generations", ends, turns)
	}
}
