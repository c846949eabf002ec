package frame

import (
	"bytes"
	"encoding/binary"
	"math/rand"
	"slices"
	"strings"
	"testing"

	"reef/api"
)

// byWords is a body's frame by the chapter's words, with the library's sum.
func byWords(kind byte, body []byte) []byte {
	n := len(body)
	b := []byte{167, kind, byte(n), byte(n >> 8), byte(n >> 16)}
	b = append(b, body...)
	return binary.LittleEndian.AppendUint32(b, library(b[1:]))
}

// openByWords opens a frame by the chapter's words, one behind the other.
func openByWords(b []byte) (byte, []byte, int, api.Errno) {
	if len(b) > 0 && b[0] != 167 {
		return 0, nil, 0, api.ErrForm
	}
	if len(b) < 5 {
		return 0, nil, 0, api.ErrShort
	}
	n := int(b[2]) + 256*int(b[3]) + 65536*int(b[4])
	if n > 1048575 {
		return 0, nil, 0, api.ErrForm
	}
	if len(b) < 5+n+4 {
		return 0, nil, 0, api.ErrShort
	}
	if binary.LittleEndian.Uint32(b[5+n:]) != library(b[1:5+n]) {
		return 0, nil, 0, api.ErrSum
	}
	return b[1], b[5 : 5+n], 5 + n + 4, api.OK
}

// seal is Seal of what can be sealed.
func seal(t testing.TB, kind byte, body []byte) []byte {
	t.Helper()
	b, e := Seal(kind, body)
	if e != api.OK {
		t.Fatalf("Seal(%d, %d bytes): %v", kind, len(body), e)
	}
	return b
}

// wantOpen holds Open's answer against the one that is asked for.
func wantOpen(t *testing.T, b []byte, kind byte, body []byte, n int, err api.Errno) {
	t.Helper()
	k, got, m, e := Open(b)
	if k != kind || !bytes.Equal(got, body) || m != n || e != err {
		t.Fatalf("Open(%.40x of %d): %d, %.40x of %d, %d, %v; want %d, %.40x of %d, %d, %v", b, len(b), k, got, len(got), m, e, kind, body, len(body), n, err)
	}
}

// wantError is wantOpen of what is no frame.
func wantError(t *testing.T, b []byte, err api.Errno) {
	t.Helper()
	wantOpen(t, b, 0, nil, 0, err)
}

// bodies is bodies of all lengths at which something changes, and some between.
func bodies() [][]byte {
	r := rand.New(rand.NewSource(6))
	l := [][]byte{nil, {}, {0}, {167}, {255}, []byte("hi"), make([]byte, 64), bytes.Repeat([]byte{255}, 64), rising(256), byWords(7, []byte("hi"))}
	for _, n := range []int{1, 2, 3, 4, 5, 31, 32, 33, 255, 257, 1000, 65535, 65536, 65537} {
		l = append(l, chance(r, n))
	}
	return l
}

// P3.2

func TestSealKnown(t *testing.T) {
	for _, c := range []struct {
		kind byte
		body string
		want string
	}{
		{7, "hi", "\xa7\x07\x02\x00\x00hi\x6f\xf1\xbd\xa5"},
		{0, "", "\xa7\x00\x00\x00\x00\xc7\x4b\x67\x48"},
		{255, "", "\xa7\xff\x00\x00\x00\x85\xa3\x64\x60"},
		{167, "\x00", "\xa7\xa7\x01\x00\x00\x00\xc2\xb2\x4b\x45"},
	} {
		b, e := Seal(c.kind, []byte(c.body))
		if string(b) != c.want || e != api.OK {
			t.Errorf("Seal(%d, %q): %x, %v; want %x", c.kind, c.body, b, e, c.want)
		}
	}
}

func TestSealEachKind(t *testing.T) {
	for kind := range 256 {
		for _, body := range []string{"", "body"} {
			if b := seal(t, byte(kind), []byte(body)); !bytes.Equal(b, byWords(byte(kind), []byte(body))) {
				t.Errorf("Seal(%d, %q): %x", kind, body, b)
			}
		}
	}
}

func TestSealManyLengths(t *testing.T) {
	for _, body := range bodies() {
		for _, kind := range []byte{0, 1, 127, 128, 255} {
			if b := seal(t, kind, body); !bytes.Equal(b, byWords(kind, body)) {
				t.Errorf("Seal(%d, %d bytes): %.40x", kind, len(body), b)
			}
		}
	}
}

func TestSealLongest(t *testing.T) {
	r := rand.New(rand.NewSource(7))
	for _, n := range []int{1<<20 - 2, 1<<20 - 1} {
		body := chance(r, n)
		if b := seal(t, 9, body); !bytes.Equal(b, byWords(9, body)) {
			t.Errorf("a body of %d bytes: %.40x of %d", n, b, len(b))
		}
	}
	for _, n := range []int{1 << 20, 1<<20 + 1, 1 << 24, 1<<24 + 5} {
		for _, kind := range []byte{0, 9, 255} {
			if b, e := Seal(kind, make([]byte, n)); len(b) != 0 || e != api.ErrLong {
				t.Errorf("a body of %d bytes: %d bytes, %v; want ErrLong", n, len(b), e)
			}
		}
	}
}

func TestSealMemory(t *testing.T) {
	body := roomy([]byte("body"))
	b := seal(t, 3, body)
	if string(body[:cap(body)][:14]) != "bodyspare room" {
		t.Errorf("the body was changed: %q", body[:cap(body)])
	}
	want := slices.Clone(b)
	body[0] = 'x'
	if !bytes.Equal(b, want) {
		t.Error("the frame changed with the body")
	}
	b[5] = 'y'
	if string(body) != "xody" {
		t.Error("the body changed with the frame")
	}
}

// P3.3

func TestOpenForm(t *testing.T) {
	whole := byWords(7, []byte("hi"))
	for c := range 256 {
		if c == 167 {
			continue
		}
		for n := 1; n <= len(whole); n++ {
			b := slices.Clone(whole[:n])
			b[0] = byte(c)
			wantError(t, b, api.ErrForm)
		}
	}
}

func TestOpenShort(t *testing.T) {
	wantError(t, nil, api.ErrShort)
	wantError(t, []byte{}, api.ErrShort)
	for _, s := range []string{"\xa7", "\xa7\x07", "\xa7\x07\x02", "\xa7\x07\x02\x00", "\xa7\xa7\xa7\xa7", "\xa7\x07\xff\xff", "\xa7\xff\xff\xff"} {
		wantError(t, []byte(s), api.ErrShort)
	}
	// What is there of body and sum doesn't matter, as long as it is not all.
	for _, s := range []string{"\xa7\x07\x00\x00\x00", "\xa7\x07\x00\x00\x00zzz", "\xa7\x07\x02\x00\x00zzzzz", "\xa7\x07\xff\xff\x0f", "\xa7\x07\x00\x00\x0f" + strings.Repeat("z", 99)} {
		wantError(t, []byte(s), api.ErrShort)
	}
}

func TestOpenTooLong(t *testing.T) {
	most := []byte("\xa7\x07\xff\xff\x0f")
	wantError(t, append(most, make([]byte, 1<<20-1+3)...), api.ErrShort)
	wantError(t, append(most, make([]byte, 1<<20-1+4)...), api.ErrSum)
	for _, head := range []string{"\x00\x00\x10", "\x01\x00\x10", "\xff\xff\x10", "\x00\x00\x20", "\x00\x00\x80", "\x00\x00\xff", "\xff\xff\xff"} {
		b := []byte("\xa7\x07" + head)
		wantError(t, b, api.ErrForm)
		wantError(t, append(b, "some bytes"...), api.ErrForm)
	}
	// Even where all bytes are there, and the sum is the right one.
	for _, n := range []int{1 << 20, 1<<20 + 1, 1<<24 - 1} {
		wantError(t, byWords(7, make([]byte, n)), api.ErrForm)
	}
}

func TestOpenSum(t *testing.T) {
	for _, body := range bodies()[:15] {
		whole := byWords(7, body)
		for bit := range 32 {
			b := slices.Clone(whole)
			b[len(b)-4+bit/8] ^= 1 << (bit % 8)
			wantError(t, b, api.ErrSum)
			wantError(t, append(b, whole...), api.ErrSum)
		}
	}
	for _, s := range []string{"\xa7\x07\x00\x00\x00\x00\x00\x00\x00", "\xa7\x07\x00\x00\x00\xff\xff\xff\xff", "\xa7\x07\x02\x00\x00hi\xa5\xbd\xf1\x6f"} {
		wantError(t, []byte(s), api.ErrSum)
	}
}

func TestOpenLongest(t *testing.T) {
	body := chance(rand.New(rand.NewSource(8)), api.MaxBody)
	b := byWords(255, body)
	wantOpen(t, b, 255, body, len(body)+9, api.OK)
	wantOpen(t, append(b, b...), 255, body, len(body)+9, api.OK)
	wantError(t, b[:len(b)-1], api.ErrShort)
	b[5+len(body)/2] ^= 16
	wantError(t, b, api.ErrSum)
}

func TestOpenMemory(t *testing.T) {
	b := roomy(byWords(3, []byte("body")))
	was := string(b[:cap(b)])
	_, body, n, e := Open(b)
	if string(body) != "body" || n != 13 || e != api.OK || string(b[:cap(b)]) != was {
		t.Errorf("Open: %q, %d, %v; of %q is left %q", body, n, e, was, b[:cap(b)])
	}
	b[5] = 'x'
	if string(body) != "body" {
		t.Error("the body changed with the frame")
	}
	body = append(body, "behind it"...)
	body[1] = 'y'
	if string(b[5:9]) != "xody" || string(b[9:cap(b)]) != was[9:] {
		t.Error("the frame changed with the body")
	}
}

// What lies behind the end, in the room that the bytes have to spare, is not there.
func TestOpenPassesOverSpareRoom(t *testing.T) {
	whole := byWords(3, []byte("body"))
	for n := range len(whole) {
		wantError(t, whole[:n], api.ErrShort)
	}
}

func TestOpenByWords(t *testing.T) {
	r := rand.New(rand.NewSource(9))
	met := map[api.Errno]int{}
	for range 200000 {
		b := odd(r)
		kind, body, n, e := openByWords(b)
		met[e]++
		wantOpen(t, b, kind, body, n, e)
	}
	for _, e := range []api.Errno{api.OK, api.ErrForm, api.ErrShort, api.ErrSum} {
		if met[e] < 100 {
			t.Errorf("%v came about %d times only", e, met[e])
		}
	}
}

// odd is bytes that are a frame, or nearly one, or none.
func odd(r *rand.Rand) []byte {
	b := append(byWords(byte(r.Intn(256)), chance(r, r.Intn(12))), chance(r, r.Intn(3)*r.Intn(5))...)
	if r.Intn(2) == 0 {
		b[r.Intn(len(b))] ^= 1 << r.Intn(8)
	}
	if r.Intn(3) == 0 {
		b[2+r.Intn(3)] = byte(r.Intn(40))
	}
	if r.Intn(3) == 0 {
		b = b[:r.Intn(len(b)+1)]
	}
	if r.Intn(20) == 0 {
		return chance(r, r.Intn(20))
	}
	return b
}

// P3.4

// told is the text by which a frame is told: its kind's byte as it is, and not as a rune, and its body.
func told(kind byte, body []byte) string { return string(append([]byte{kind}, body...)) }

// wantAll holds All's answer against the one that is asked for.
func wantAll(t *testing.T, b []byte, texts []string, n int, err api.Errno) {
	t.Helper()
	l, m, e := All(b)
	if !slices.Equal(l, texts) || m != n || e != err {
		t.Fatalf("All(%.60x of %d): %.80q, %d, %v; want %.80q, %d, %v", b, len(b), l, m, e, texts, n, err)
	}
}

func TestAllOfNothing(t *testing.T) {
	wantAll(t, nil, nil, 0, api.OK)
	wantAll(t, []byte{}, nil, 0, api.OK)
}

func TestAllOfMany(t *testing.T) {
	var b []byte
	var texts []string
	for i, body := range bodies() {
		for _, kind := range []byte{0, byte(i), 255} {
			b = append(b, byWords(kind, body)...)
			texts = append(texts, told(kind, body))
			if len(body) < 1000 || kind == 0 {
				wantAll(t, roomy(b), texts, len(b), api.OK)
			}
		}
	}
	wantAll(t, b, texts, len(b), api.OK)
}

func TestAllUpToTheFirstThatIsNone(t *testing.T) {
	good, bad := byWords(7, []byte("hi")), byWords(8, []byte("bad"))
	bad[6] ^= 1
	for _, c := range []struct {
		next string
		err  api.Errno
	}{
		{"\x00", api.ErrForm},
		{"\xa6\x07\x02\x00\x00hi", api.ErrForm},
		{"\xa7\x07\xff\xff\x1f", api.ErrForm},
		{"\xa7", api.ErrShort},
		{"\xa7\x07\x02\x00", api.ErrShort},
		{string(good[:10]), api.ErrShort},
		{string(bad), api.ErrSum},
		{string(bad) + string(good), api.ErrSum},
		{"\x00" + string(good), api.ErrForm},
		{"\xa7\x07\xff\xff\x00" + string(good), api.ErrShort},
	} {
		wantAll(t, []byte(c.next), nil, 0, c.err)
		wantAll(t, append(slices.Clone(good), c.next...), []string{"\x07hi"}, 11, c.err)
		wantAll(t, append(slices.Concat(good, byWords(200, nil), good), c.next...), []string{"\x07hi", "\xc8", "\x07hi"}, 31, c.err)
	}
}

func TestAllCutOffAnywhere(t *testing.T) {
	var b []byte
	var texts []string
	ends := []int{0}
	for i, body := range []string{"", "a", "hello", "", strings.Repeat("\xa7", 20)} {
		b = append(b, byWords(byte(i*60), []byte(body))...)
		texts = append(texts, told(byte(i*60), []byte(body)))
		ends = append(ends, len(b))
	}
	for n := range len(b) + 1 {
		whole, at := slices.BinarySearch(ends, n)
		err := api.OK
		if !at {
			whole--
			err = api.ErrShort
		}
		wantAll(t, b[:n], texts[:whole], ends[whole], err)
	}
}

func TestAllGoesByOpen(t *testing.T) {
	r := rand.New(rand.NewSource(10))
	for range 20000 {
		var b []byte
		for range r.Intn(6) {
			if r.Intn(5) == 0 {
				b = append(b, odd(r)...)
			} else {
				b = append(b, byWords(byte(r.Intn(256)), chance(r, r.Intn(9)))...)
			}
		}
		var texts []string
		err, n := api.OK, 0
		for n < len(b) {
			kind, body, size, e := openByWords(b[n:])
			if err = e; e != api.OK {
				break
			}
			texts = append(texts, told(kind, body))
			n += size
		}
		wantAll(t, b, texts, n, err)
	}
}

func TestAllLeavesItsBytes(t *testing.T) {
	b := roomy(append(byWords(7, []byte("hi")), byWords(8, []byte("ho"))...))
	was := string(b[:cap(b)])
	l, _, _ := All(b)
	if string(b[:cap(b)]) != was {
		t.Error("its bytes were changed")
	}
	clear(b)
	if !slices.Equal(l, []string{"\x07hi", "\x08ho"}) {
		t.Errorf("the texts changed with the bytes: %q", l)
	}
}

// P3.6

func TestThereAndBack(t *testing.T) {
	r := rand.New(rand.NewSource(11))
	behind := [][]byte{nil, {0}, {167}, {1, 2}, byWords(1, []byte("next")), chance(r, 50)}
	for i, body := range append(bodies(), chance(r, api.MaxBody)) {
		for _, kind := range []byte{0, byte(i), 255} {
			b := seal(t, kind, body)
			for _, more := range behind {
				wantOpen(t, slices.Concat(b, more), kind, body, len(body)+9, api.OK)
			}
			wantAll(t, slices.Concat(b, b), []string{told(kind, body), told(kind, body)}, 2*len(b), api.OK)
		}
	}
}

func FuzzOpen(f *testing.F) {
	f.Add(byWords(7, []byte("hi")))
	f.Add([]byte{167, 1, 255, 255, 31})
	f.Add([]byte{})
	f.Fuzz(func(t *testing.T, b []byte) {
		kind, body, n, e := openByWords(b)
		wantOpen(t, b, kind, body, n, e)
		if e == api.OK && !bytes.Equal(seal(t, kind, body), b[:n]) {
			t.Fatalf("%x is not sealed again", b[:n])
		}
	})
}
