package sector

import (
	"bytes"
	"math/rand"
	"slices"
	"testing"

	"reef/api"
)

// model is a device by the chapter's words. It has no cache: it keeps the row of all writes since the last flush, and looks up in it what the cache must be.
type model struct {
	laid    []string
	row     []written
	power   bool
	cut     int // -1: none is set
	since   int
	pick    uint64
	writes  int
	flushes int
}

// written is a write that was done.
type written struct {
	k int
	s string
}

// modelOf is the model of a device that has these bytes.
func modelOf(image []byte) *model {
	m := &model{power: true, cut: -1}
	for b := range slices.Chunk(image, api.SectorSize) {
		m.laid = append(m.laid, string(b))
	}
	return m
}

func (m *model) dirty() []int {
	var l []int
	for _, w := range m.row {
		if !slices.Contains(l, w.k) {
			l = append(l, w.k)
		}
	}
	return l
}

// now is a sector's bytes as they were written last.
func (m *model) now(k int) string {
	for _, w := range slices.Backward(m.row) {
		if w.k == k {
			return w.s
		}
	}
	return m.laid[k]
}

func (m *model) read(k int) (string, api.Errno) {
	switch {
	case !m.power:
		return "", api.ErrDead
	case k < 0 || k >= len(m.laid):
		return "", api.ErrNumber
	}
	return m.now(k), api.OK
}

func (m *model) write(k int, b []byte) api.Errno {
	switch {
	case !m.power:
		return api.ErrDead
	case k < 0 || k >= len(m.laid):
		return api.ErrNumber
	case len(b) != 64:
		return api.ErrForm
	case m.cut >= 0 && m.since == m.cut:
		m.lose(m.pick)
		return api.ErrDead
	}
	m.row = append(m.row, written{k, string(b)})
	m.writes++
	m.since++
	return api.OK
}

func (m *model) flush() api.Errno {
	if !m.power {
		return api.ErrDead
	}
	for _, w := range m.row {
		m.laid[w.k] = w.s
	}
	m.row = nil
	m.flushes++
	return api.OK
}

func (m *model) lose(pick uint64) {
	if !m.power {
		return
	}
	for j, k := range m.dirty() {
		bit := uint64(1) << (j % 64)
		if pick&bit == bit {
			m.laid[k] = m.now(k)
		}
	}
	m.row, m.power, m.cut = nil, false, -1
}

func (m *model) setCut(writes int, pick uint64) {
	if m.power {
		m.cut, m.since, m.pick = max(writes, -1), 0, pick
	}
}

func (m *model) image() string {
	var s string
	for _, x := range m.laid {
		s += x
	}
	return s
}

// hold holds all that a device tells against the model.
func (m *model) hold(t *testing.T, d *Device) {
	t.Helper()
	if d.Dead() == m.power || d.Sectors() != len(m.laid) {
		t.Fatalf("dead %v, %d sectors; want %v, %d", d.Dead(), d.Sectors(), !m.power, len(m.laid))
	}
	if w, f := d.Writes(); w != m.writes || f != m.flushes {
		t.Fatalf("%d writes, %d flushes; want %d, %d", w, f, m.writes, m.flushes)
	}
	if got, want := d.Dirty(), m.dirty(); !slices.Equal(got, want) {
		t.Fatalf("dirty: %d; want %d", got, want)
	}
	if string(d.Image()) != m.image() {
		t.Fatal("the image is another one")
	}
	for k := -1; k <= len(m.laid); k++ {
		wantRead(t, d, k, m)
	}
}

// wantRead holds a read against the model's.
func wantRead(t *testing.T, d *Device, k int, m *model) {
	t.Helper()
	b, e := d.Read(k)
	s, err := m.read(k)
	if string(b) != s || e != err {
		t.Fatalf("Read(%d): %.8x of %d, %v; want %.8x of %d, %v", k, b, len(b), e, s, len(s), err)
	}
}

// step does one step of chance at both, and holds their answers against each other.
func (m *model) step(t *testing.T, d *Device, r *rand.Rand) {
	t.Helper()
	switch n := len(m.laid); r.Intn(20) {
	case 0:
		if a, b := d.Flush(), m.flush(); a != b {
			t.Fatalf("Flush: %v; want %v", a, b)
		}
	case 1:
		if r.Intn(4) == 0 {
			pick := somePick(r)
			d.Lose(pick)
			m.lose(pick)
		}
	case 2:
		writes, pick := r.Intn(9)-2, somePick(r)
		d.Cut(writes, pick)
		m.setCut(writes, pick)
	case 3, 4, 5:
		d.On()
		m.power = true
	case 6, 7:
		wantRead(t, d, r.Intn(n+2)-1, m)
	default:
		k, b := r.Intn(n+2)-1, chance(r, someSize(r))
		if a, b := d.Write(k, b), m.write(k, b); a != b {
			t.Fatalf("Write(%d): %v; want %v", k, a, b)
		}
	}
}

// somePick is a pick of any kind: of all, of none, of some.
func somePick(r *rand.Rand) uint64 {
	switch r.Intn(4) {
	case 0:
		return 0
	case 1:
		return 1<<64 - 1
	case 2:
		return 1 << r.Intn(64)
	}
	return r.Uint64()
}

// someSize is mostly a sector's size.
func someSize(r *rand.Rand) int {
	if r.Intn(8) > 0 {
		return 64
	}
	return []int{0, 1, 63, 65, 128}[r.Intn(5)]
}

// chance is n bytes by chance.
func chance(r *rand.Rand, n int) []byte {
	b := make([]byte, n)
	r.Read(b)
	return b
}

// T1: whatever is done, in whatever order, each answer is the one that the chapter's words come to.
func TestRunsOfChance(t *testing.T) {
	r := rand.New(rand.NewSource(51))
	for i := range 400 {
		image := chance(r, 64*[]int{1, 2, 3, 5, 8, 70}[i%6])
		d, m := Load(image), modelOf(image)
		for range 150 {
			m.step(t, d, r)
			if i%6 < 5 || r.Intn(10) == 0 {
				m.hold(t, d)
			}
		}
		m.hold(t, d)
	}
}

// Many sectors in the cache, gone over behind one another.
func TestRunsOfManySectors(t *testing.T) {
	r := rand.New(rand.NewSource(52))
	for range 6 {
		d, m := New(300), modelOf(make([]byte, 300*64))
		for range 5 {
			for range r.Intn(600) {
				k, b := r.Intn(300), chance(r, 64)
				if a, b := d.Write(k, b), m.write(k, b); a != b {
					t.Fatalf("Write(%d): %v; want %v", k, a, b)
				}
			}
			m.hold(t, d)
			pick := somePick(r)
			d.Lose(pick)
			m.lose(pick)
			m.hold(t, d)
			d.On()
			m.power = true
			m.hold(t, d)
		}
	}
}

// A device whose image is loaded goes on as the one that it was taken of.
func TestLoadedGoesOn(t *testing.T) {
	r := rand.New(rand.NewSource(53))
	for range 60 {
		image := chance(r, 64*5)
		d, m := Load(image), modelOf(image)
		for range 40 {
			m.step(t, d, r)
		}
		d.Lose(r.Uint64())
		again := Load(d.Image())
		n := modelOf(d.Image())
		d.On()
		for k := range 5 {
			a, e := d.Read(k)
			b, f := again.Read(k)
			if !bytes.Equal(a, b) || e != api.OK || f != api.OK {
				t.Fatalf("sector %d: %.8x, %v; loaded: %.8x, %v", k, a, e, b, f)
			}
		}
		for range 40 {
			n.step(t, again, r)
			n.hold(t, again)
		}
	}
}
