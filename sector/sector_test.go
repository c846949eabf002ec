package sector

import (
	"bytes"
	"math"
	"math/rand"
	"slices"
	"testing"

	"reef/api"
)

// full is a sector's bytes, each another one than its neighbours, so that none can be moved unseen.
func full(c byte) []byte {
	b := make([]byte, 64)
	for i := range b {
		b[i] = c + byte(i)*3
	}
	return b
}

// write writes what can be written.
func write(t *testing.T, d *Device, k int, b []byte) {
	t.Helper()
	wantWrite(t, d, k, b, api.OK)
}

func wantWrite(t *testing.T, d *Device, k int, b []byte, err api.Errno) {
	t.Helper()
	if e := d.Write(k, b); e != err {
		t.Fatalf("Write(%d, %d bytes): %v; want %v", k, len(b), e, err)
	}
}

func flush(t *testing.T, d *Device) {
	t.Helper()
	if e := d.Flush(); e != api.OK {
		t.Fatalf("Flush: %v", e)
	}
}

// wantBytes asks for a sector's bytes.
func wantBytes(t *testing.T, d *Device, k int, want []byte) {
	t.Helper()
	if b, e := d.Read(k); !bytes.Equal(b, want) || e != api.OK {
		t.Fatalf("Read(%d): %.8x of %d, %v; want %.8x", k, b, len(b), e, want)
	}
}

// wantNoRead asks for an error, and nothing beside it.
func wantNoRead(t *testing.T, d *Device, k int, err api.Errno) {
	t.Helper()
	if b, e := d.Read(k); len(b) > 0 || e != err {
		t.Fatalf("Read(%d): %.8x of %d, %v; want %v", k, b, len(b), e, err)
	}
}

// wantLaid asks for what is laid down: these sectors, and zeros in all others.
func wantLaid(t *testing.T, d *Device, n int, l map[int][]byte) {
	t.Helper()
	want := make([]byte, 64*n)
	for k, b := range l {
		copy(want[64*k:], b)
	}
	got := d.Image()
	for k := range n {
		if len(got) == len(want) && !bytes.Equal(got[64*k:64*k+64], want[64*k:64*k+64]) {
			t.Fatalf("laid down in sector %d: %.8x; want %.8x", k, got[64*k:], want[64*k:])
		}
	}
	if len(got) != len(want) {
		t.Fatalf("an image of %d bytes; want %d", len(got), len(want))
	}
}

func wantDirty(t *testing.T, d *Device, want ...int) {
	t.Helper()
	if l := d.Dirty(); !slices.Equal(l, want) {
		t.Fatalf("dirty: %d; want %d", l, want)
	}
}

func wantCounts(t *testing.T, d *Device, writes, flushes int) {
	t.Helper()
	if w, f := d.Writes(); w != writes || f != flushes {
		t.Fatalf("%d writes, %d flushes; want %d, %d", w, f, writes, flushes)
	}
}

func wantDead(t *testing.T, d *Device, want bool) {
	t.Helper()
	if d.Dead() != want {
		t.Fatalf("dead: %v; want %v", d.Dead(), want)
	}
}

// noSectors is numbers of sectors that a device of n has not.
func noSectors(n int) []int {
	return []int{-1, n, n + 1, -n, -n - 1, n + 64, 1 << 32, -1 << 32, math.MaxInt, math.MinInt}
}

// P5.1

func TestNewOfEachSize(t *testing.T) {
	for _, n := range []int{1, 2, 3, 63, 64, 65, 1000, 4095, 4096} {
		d := New(n)
		if d == nil {
			t.Fatalf("New(%d): none", n)
		}
		if d.Sectors() != n {
			t.Fatalf("New(%d): %d sectors", n, d.Sectors())
		}
		wantDead(t, d, false)
		wantDirty(t, d)
		wantCounts(t, d, 0, 0)
		wantLaid(t, d, n, nil)
		wantBytes(t, d, 0, make([]byte, 64))
		wantBytes(t, d, n-1, make([]byte, 64))
		write(t, d, n-1, full(1))
		wantNoRead(t, d, n, api.ErrNumber)
		flush(t, d)
		wantLaid(t, d, n, map[int][]byte{n - 1: full(1)})
	}
}

func TestNewOfNoSize(t *testing.T) {
	for _, n := range []int{0, -1, -2, -64, -4096, math.MinInt, 4097, 4098, 8192, 1 << 16, 1 << 32, 1<<32 + 1, math.MaxInt} {
		if New(n) != nil {
			t.Errorf("New(%d): a device", n)
		}
	}
}

func TestNewDevicesAreApart(t *testing.T) {
	a, b := New(2), New(2)
	write(t, a, 0, full(1))
	flush(t, a)
	write(t, a, 1, full(2))
	a.Lose(0)
	wantLaid(t, b, 2, nil)
	wantDead(t, b, false)
	wantCounts(t, b, 0, 0)
}

func TestLoadOfEachSize(t *testing.T) {
	r := rand.New(rand.NewSource(54))
	for _, n := range []int{1, 2, 63, 64, 65, 4095, 4096} {
		image := chance(r, 64*n)
		d := Load(image)
		if d == nil {
			t.Fatalf("Load of %d sectors: none", n)
		}
		if d.Sectors() != n || !bytes.Equal(d.Image(), image) {
			t.Fatalf("Load of %d sectors: %d sectors, or other bytes", n, d.Sectors())
		}
		wantDead(t, d, false)
		wantDirty(t, d)
		wantCounts(t, d, 0, 0)
		for k := range n {
			wantBytes(t, d, k, image[64*k:64*k+64])
		}
		d.Lose(0)
		if !bytes.Equal(d.Image(), image) {
			t.Fatalf("Load of %d sectors: what it was loaded with was not laid down", n)
		}
	}
}

func TestLoadOfNoSize(t *testing.T) {
	for _, n := range []int{0, 1, 2, 32, 63, 65, 127, 129, 64*4096 - 1, 64*4096 + 1, 64 * 4097, 64*4097 - 1, 64 * 8192, 1 << 22} {
		if Load(make([]byte, n)) != nil {
			t.Errorf("Load of %d bytes: a device", n)
		}
	}
	if Load(nil) != nil {
		t.Error("Load of nil: a device")
	}
}

func TestLoadKeepsNoImage(t *testing.T) {
	image := append(full(1), full(2)...)
	d := Load(image)
	for i := range image {
		image[i] = 0xee
	}
	wantBytes(t, d, 0, full(1))
	wantLaid(t, d, 2, map[int][]byte{0: full(1), 1: full(2)})
}

func TestLoadLeavesItsImage(t *testing.T) {
	room := append(full(1), full(2)...)
	image := room[:64]
	d := Load(image)
	if d.Sectors() != 1 {
		t.Fatalf("%d sectors: the spare room plays a part", d.Sectors())
	}
	write(t, d, 0, full(3))
	flush(t, d)
	if !bytes.Equal(room, append(full(1), full(2)...)) {
		t.Error("the image was changed")
	}
}

// P5.2

func TestReadErrors(t *testing.T) {
	for _, n := range []int{1, 4, 4096} {
		d := New(n)
		write(t, d, 0, full(1))
		for _, k := range noSectors(n) {
			wantNoRead(t, d, k, api.ErrNumber)
		}
		wantBytes(t, d, 0, full(1))
		d.Lose(1)
		for _, k := range append(noSectors(n), 0, n-1) {
			wantNoRead(t, d, k, api.ErrDead)
		}
	}
}

func TestReadOfCacheAndOfLaidDown(t *testing.T) {
	d := Load(append(full(1), full(2)...))
	wantBytes(t, d, 0, full(1))
	write(t, d, 0, full(3))
	wantBytes(t, d, 0, full(3))
	wantBytes(t, d, 1, full(2))
	flush(t, d)
	wantBytes(t, d, 0, full(3))
	write(t, d, 0, make([]byte, 64))
	wantBytes(t, d, 0, make([]byte, 64)) // zeros that lie in the cache are bytes too
	wantLaid(t, d, 2, map[int][]byte{0: full(3), 1: full(2)})
}

func TestReadIsMemoryOfItsOwn(t *testing.T) {
	d := Load(append(full(1), full(2)...))
	write(t, d, 1, full(3))
	for k, want := range [][]byte{full(1), full(3)} {
		a, _ := d.Read(k)
		b, _ := d.Read(k)
		for i := range a {
			a[i] = 0xee
		}
		_ = append(a[:0], make([]byte, cap(a))...)
		if !bytes.Equal(b, want) {
			t.Errorf("two reads of sector %d share their bytes", k)
		}
		wantBytes(t, d, k, want)
	}
	flush(t, d)
	wantLaid(t, d, 2, map[int][]byte{0: full(1), 1: full(3)})
}

func TestReadChangesNothing(t *testing.T) {
	d := New(4)
	write(t, d, 2, full(1))
	write(t, d, 0, full(2))
	d.Cut(1, 0)
	for k := -1; k < 6; k++ {
		d.Read(k)
	}
	wantDirty(t, d, 2, 0)
	wantCounts(t, d, 2, 0)
	write(t, d, 1, full(3)) // the cut lets a write through, which no read has taken
	wantWrite(t, d, 1, full(3), api.ErrDead)
}

// P5.3

func TestWriteErrors(t *testing.T) {
	d := New(4)
	for _, k := range noSectors(4) {
		wantWrite(t, d, k, full(1), api.ErrNumber)
	}
	for _, n := range []int{0, 1, 32, 63, 65, 127, 128, 256, 4096} {
		wantWrite(t, d, 1, make([]byte, n), api.ErrForm)
	}
	wantWrite(t, d, 1, nil, api.ErrForm)
	wantWrite(t, d, 1, full(1)[:63], api.ErrForm) // a 64th byte in the spare room is none
	wantDirty(t, d)
	wantCounts(t, d, 0, 0)
	wantLaid(t, d, 4, nil)
	write(t, d, 1, append(full(1), 9)[:64])
	wantBytes(t, d, 1, full(1))
	wantDead(t, d, false)
}

func TestWriteOfWhichErrorComesFirst(t *testing.T) {
	d := New(4)
	d.Cut(0, 0)
	wantWrite(t, d, 9, full(1), api.ErrNumber)
	wantWrite(t, d, 9, nil, api.ErrNumber)
	wantWrite(t, d, -1, full(1)[:63], api.ErrNumber)
	wantWrite(t, d, 0, nil, api.ErrForm)
	wantWrite(t, d, 0, make([]byte, 65), api.ErrForm)
	wantDead(t, d, false)
	wantWrite(t, d, 0, full(1), api.ErrDead)
	wantDead(t, d, true)
	wantWrite(t, d, 9, nil, api.ErrDead)
	wantWrite(t, d, 9, full(1), api.ErrDead)
	wantWrite(t, d, 0, nil, api.ErrDead)
	wantWrite(t, d, 0, full(1), api.ErrDead)
	wantCounts(t, d, 0, 0)
}

func TestWriteKeepsNoBytes(t *testing.T) {
	d := New(2)
	b := full(1)
	write(t, d, 0, b)
	if !bytes.Equal(b, full(1)) {
		t.Error("the bytes were changed")
	}
	b[0], b[63] = 0xee, 0xee
	wantBytes(t, d, 0, full(1))
	flush(t, d)
	b[1] = 0xee
	wantBytes(t, d, 0, full(1))
	wantLaid(t, d, 2, map[int][]byte{0: full(1)})
}

func TestWriteTwiceKeepsItsPlace(t *testing.T) {
	d := New(4)
	for i, k := range []int{3, 1, 0, 1, 3, 1, 2, 3} {
		write(t, d, k, full(byte(i)))
	}
	wantDirty(t, d, 3, 1, 0, 2)
	wantCounts(t, d, 8, 0)
	wantBytes(t, d, 3, full(7))
	wantBytes(t, d, 1, full(5))
	wantBytes(t, d, 0, full(2))
	wantBytes(t, d, 2, full(6))
	d.Lose(0b0011) // the sectors 3 and 1, with what was written there last
	wantLaid(t, d, 4, map[int][]byte{3: full(7), 1: full(5)})
}

func TestWriteOfTheSameBytesLiesInTheCache(t *testing.T) {
	d := New(2)
	write(t, d, 1, make([]byte, 64))
	wantDirty(t, d, 1)
	wantCounts(t, d, 1, 0)
}

func TestWriteIsNotLaidDown(t *testing.T) {
	d := New(3)
	for k := range 3 {
		write(t, d, k, full(byte(k)))
	}
	wantLaid(t, d, 3, nil)
}

// P5.4

func TestFlushLaysAllDown(t *testing.T) {
	const n = 200
	d := New(n)
	want := map[int][]byte{}
	for k := n - 1; k >= 0; k-- {
		write(t, d, k, full(byte(k)))
		want[k] = full(byte(k))
	}
	wantLaid(t, d, n, nil)
	flush(t, d)
	wantDirty(t, d)
	wantLaid(t, d, n, want)
	wantCounts(t, d, n, 1)
	d.Lose(0)
	wantLaid(t, d, n, want)
}

func TestFlushOfNothingCounts(t *testing.T) {
	d := New(2)
	flush(t, d)
	flush(t, d)
	wantCounts(t, d, 0, 2)
	wantLaid(t, d, 2, nil)
	write(t, d, 0, full(1))
	flush(t, d)
	flush(t, d)
	wantCounts(t, d, 1, 4)
	wantLaid(t, d, 2, map[int][]byte{0: full(1)})
}

func TestFlushWithoutPower(t *testing.T) {
	d := New(2)
	write(t, d, 0, full(1))
	d.Lose(0)
	for range 2 {
		if e := d.Flush(); e != api.ErrDead {
			t.Errorf("Flush: %v", e)
		}
	}
	wantCounts(t, d, 1, 0)
	wantLaid(t, d, 2, nil)
	d.On()
	flush(t, d)
	wantCounts(t, d, 1, 1)
	wantLaid(t, d, 2, nil)
}

// P5.8

func TestDirtyBeginsAnew(t *testing.T) {
	d := New(4)
	write(t, d, 3, full(1))
	write(t, d, 0, full(2))
	flush(t, d)
	wantDirty(t, d)
	write(t, d, 0, full(3))
	write(t, d, 3, full(4))
	wantDirty(t, d, 0, 3) // the order is that since the flush
	d.Lose(0)
	wantDirty(t, d)
	d.On()
	wantDirty(t, d)
	write(t, d, 2, full(5))
	write(t, d, 0, full(6))
	wantDirty(t, d, 2, 0)
}

func TestDirtyIsMemoryOfItsOwn(t *testing.T) {
	d := New(4)
	write(t, d, 3, full(1))
	write(t, d, 1, full(2))
	l := d.Dirty()
	l[0], l[1] = 0, 0
	_ = append(l[:0], 2, 2)
	wantDirty(t, d, 3, 1)
	l = d.Dirty()
	write(t, d, 2, full(3))
	if !slices.Equal(l, []int{3, 1}) {
		t.Errorf("an answer was changed: %d", l)
	}
	d.Lose(0b10)
	wantLaid(t, d, 4, map[int][]byte{1: full(2)})
}

func TestImageIsMemoryOfItsOwn(t *testing.T) {
	d := Load(append(full(1), full(2)...))
	b := d.Image()
	for i := range b {
		b[i] = 0xee
	}
	_ = append(b[:0], make([]byte, cap(b))...)
	wantBytes(t, d, 0, full(1))
	wantLaid(t, d, 2, map[int][]byte{0: full(1), 1: full(2)})
	b = d.Image()
	write(t, d, 0, full(3))
	flush(t, d)
	if !bytes.Equal(b, append(full(1), full(2)...)) {
		t.Error("an answer was changed")
	}
}

func TestImageWithoutPower(t *testing.T) {
	d := New(3)
	write(t, d, 1, full(1))
	flush(t, d)
	write(t, d, 1, full(2))
	write(t, d, 2, full(3))
	wantLaid(t, d, 3, map[int][]byte{1: full(1)}) // not what lies in the cache
	d.Lose(0b10)
	wantLaid(t, d, 3, map[int][]byte{1: full(1), 2: full(3)})
	if d.Sectors() != 3 {
		t.Errorf("%d sectors without power", d.Sectors())
	}
}

func TestCountsThroughLosses(t *testing.T) {
	d := New(4)
	write(t, d, 0, full(1))
	write(t, d, 0, full(2)) // each write counts, also in a place that is taken
	flush(t, d)
	d.Lose(0)
	wantCounts(t, d, 2, 1)
	wantWrite(t, d, 0, full(3), api.ErrDead)
	d.Flush()
	wantCounts(t, d, 2, 1)
	d.On()
	wantCounts(t, d, 2, 1)
	write(t, d, 1, full(4))
	wantWrite(t, d, 4, full(4), api.ErrNumber)
	wantWrite(t, d, 1, full(4)[1:], api.ErrForm)
	d.Cut(1, 0)
	write(t, d, 1, full(5))
	wantWrite(t, d, 1, full(6), api.ErrDead) // the one that finds the power going was not done
	wantCounts(t, d, 4, 1)
	d.On()
	flush(t, d)
	write(t, d, 2, full(7))
	wantCounts(t, d, 5, 2)
	wantCounts(t, Load(d.Image()), 0, 0) // another object has done none
}

// The chapter's examples.

func TestExampleOfCache(t *testing.T) {
	d := New(4)
	a, b, c := full('a'), full('b'), full('c')
	write(t, d, 2, a)
	write(t, d, 0, b)
	write(t, d, 2, c)
	wantDirty(t, d, 2, 0)
	wantBytes(t, d, 2, c)
	wantLaid(t, d, 4, nil)
	d.Lose(1)
	wantLaid(t, d, 4, map[int][]byte{2: c})
	wantDead(t, d, true)
	d.On()
	wantBytes(t, d, 0, make([]byte, 64))
}

func TestExampleOfCut(t *testing.T) {
	d := New(4)
	write(t, d, 1, full(9))
	flush(t, d)
	d.Cut(1, 0)
	write(t, d, 0, full(1))
	wantWrite(t, d, 1, full(2), api.ErrDead)
	wantDead(t, d, true)
	wantLaid(t, d, 4, map[int][]byte{1: full(9)})
}

func TestExampleOfNone(t *testing.T) {
	if New(0) != nil || Load(make([]byte, 65)) != nil {
		t.Error("a device")
	}
	d := New(4)
	d.Cut(0, 0)
	wantWrite(t, d, 9, full(1), api.ErrNumber)
	wantDead(t, d, false)
}
