package maps

import (
	"encoding/binary"
	"math"
	"math/rand"
	"strings"
	"testing"

	"reef/api"
)

func wantEncode(t *testing.T, c api.Inc, want string) {
	t.Helper()
	if s := Encode(c); s != want {
		t.Errorf("Encode(%+v): %x; want %x", c, s, want)
	}
}

func wantDecode(t *testing.T, s string, c api.Inc, e api.Errno) {
	t.Helper()
	if got, err := Decode(s); got != c || err != e {
		t.Errorf("Decode(%x): %+v, %v; want %+v, %v", s, got, err, c, e)
	}
}

// known is changes with their texts.
func known() map[string]api.Inc {
	return map[string]api.Inc{
		"\x01\x01\x00\x03\x00\x00\x00\x00":                 boot(1, 3),
		"\x01\x07\x00\x80\x80\x80\x80\x04\x00\x00\x00\x00": boot(7, last),
		"\x02\x00\x00\x01\x00\x00\x00\x00":                 down(0, 1),
		"\x02\x05\x00\xac\x02\x00\x00\x00\x00":             down(5, 300),
		"\x03\x02\x00\x00\x00\x00\x00\x00":                 weigh(2, 0),
		"\x03\x02\x00\x80\x80\x40\x00\x00\x00\x00":         weigh(2, wide),
		"\x03\x07\x00\x80\x80\x04\x00\x00\x00\x00":         weigh(7, unit),
		"\x04\x03\x00\x7f\x00\x00\x00\x00":                 thru(3, 127),
		"\x04\x03\x00\x80\x01\x00\x00\x00\x00":             thru(3, 128),
		"\x05\x00\x00\x00\x03\x02\x04\x02":                 pool(3, 2, 4, 2),
		"\x05\x00\x00\x00\x01\x01\x08\x01":                 pool(1, 1, 8, 1),
		"\x06\x00\x01\x02\x00\x00\x00\x00":                 ban(1, 2),
		"\x06\x00\x03\xff\xff\xff\xff\x03\x00\x00\x00\x00": ban(3, last-1),
	}
}

// P13.4

func TestEncode(t *testing.T) {
	for s, c := range known() {
		wantEncode(t, c, s)
	}
}

func TestEncodeOfNoChange(t *testing.T) {
	r := rand.New(rand.NewSource(2))
	for _, c := range []api.Inc{{}, {Kind: 7}, {Kind: -1}, boot(8, 1), boot(1, 0), down(-1, 1), weigh(1, -1), thru(1, 0), pool(0, 0, 0, 0), ban(4, 1), ban(1, last+1)} {
		wantEncode(t, c, "")
	}
	for range 20000 {
		c := upset(r, chanceInc(r, full()))
		if s := Encode(c); (s != "") != incByWords(c) {
			t.Fatalf("Encode(%+v): %x", c, s)
		}
	}
}

// P13.5

func TestDecode(t *testing.T) {
	for s, c := range known() {
		wantDecode(t, s, c, api.OK)
	}
}

func TestDecodeCutOffAndWithBytesBehind(t *testing.T) {
	for s := range known() {
		for n := range len(s) {
			wantDecode(t, s[:n], api.Inc{}, api.ErrForm)
			wantDecode(t, s[n+1:], api.Inc{}, api.ErrForm)
		}
		for _, behind := range []string{"\x00", "\x01", "\xff", "\x80", s, strings.Repeat("\x00", 1000)} {
			wantDecode(t, s+behind, api.Inc{}, api.ErrForm)
		}
	}
}

// The form is asked for ahead of what the text says.
func TestDecodeOfNoChange(t *testing.T) {
	none := []string{
		"\x00\x00\x00\x00\x00\x00\x00\x00", "\x09\x00\x00\x00\x00\x00\x00\x00", "\x07\x00\x00\x01\x00\x00\x00\x00",
		"\x01\x08\x00\x03\x00\x00\x00\x00", "\x01\x01\x01\x03\x00\x00\x00\x00", "\x01\x01\x00\x00\x00\x00\x00\x00",
		"\x01\x01\x00\x03\x01\x00\x00\x00", "\x02\x01\x00\x03\x00\x01\x00\x00", "\x04\x01\x00\x03\x00\x00\x01\x00", "\x06\x00\x01\x02\x00\x00\x00\x01",
		"\x01\x01\x00\x81\x80\x80\x80\x04\x00\x00\x00\x00", "\x03\x02\x00\x81\x80\x40\x00\x00\x00\x00", "\x06\x00\x04\x02\x00\x00\x00\x00", "\x06\x01\x01\x02\x00\x00\x00\x00",
		"\x05\x00\x00\x00\x02\x03\x04\x02", "\x05\x00\x00\x00\x04\x02\x04\x02", "\x05\x00\x00\x00\x03\x02\x09\x02", "\x05\x00\x00\x00\x03\x02\x04\x03", "\x05\x00\x00\x01\x03\x02\x04\x02",
		"\x05\x01\x00\x00\x03\x02\x04\x02", "\x05\x00\x01\x00\x03\x02\x04\x02",
		"\x81\x80\x80\x80\x10\x01\x00\x03\x00\x00\x00\x00",                                                     // kind 2^32 + 1
		"\x01\x01\x00\xff\xff\xff\xff\xff\xff\xff\xff\x7f\x00\x00\x00\x00",                                     // number 2^63 - 1
		strings.Repeat("\xff\xff\xff\xff\xff\xff\xff\xff\x7f", 8),                                              // all of them
		"\x01\x80\x80\x80\x80\x10\x00\x03\x00\x00\x00\x00", "\x06\x00\x80\x80\x80\x80\x10\x02\x00\x00\x00\x00", // node and client 2^32
	}
	for _, s := range none {
		wantDecode(t, s, api.Inc{}, api.ErrState)
		wantDecode(t, s+"\x00", api.Inc{}, api.ErrForm)
		wantDecode(t, s[:len(s)-1], api.Inc{}, api.ErrForm)
	}
}

func TestDecodeOfAnotherForm(t *testing.T) {
	for _, s := range []string{
		"", "x", "boot 1 30", strings.Repeat("\x80", 8), strings.Repeat("\xff", 200),
		"\x81\x00\x01\x00\x03\x00\x00\x00\x00",                                 // a number in more bytes than need be
		"\x01\x01\x80\x00\x03\x00\x00\x00\x00",                                 //
		"\x01\x01\x00\x83\x00\x00\x00\x00\x00",                                 //
		"\x01\x01\x00\x03\x00\x00\x00\x80\x00",                                 //
		"\x09\x80\x00\x00\x00\x00\x00\x00\x00",                                 //
		"\x01\x01\x00\x80\x80\x80\x80\x80\x80\x80\x80\x80\x01\x00\x00\x00\x00", // 2^63
		"\x01\x01\x00\x80\x80\x80\x80\x80\x80\x80\x80\x80\x02\x00\x00\x00\x00", // more than 64 bits
		"\x01\x01\x00\x03\x00\x00\x00\x00\x00",
	} {
		wantDecode(t, s, api.Inc{}, api.ErrForm)
	}
}

// decodeByWords reads number by number.
func decodeByWords(s string) (api.Inc, api.Errno) {
	var l [8]int64
	b := []byte(s)
	for i := range l {
		x, n := binary.Uvarint(b)
		if n <= 0 || x > math.MaxInt64 || n > 1 && b[n-1] == 0 {
			return api.Inc{}, api.ErrForm
		}
		l[i], b = int64(x), b[n:]
	}
	c := api.Inc{Kind: int(l[0]), Osd: int(l[1]), Client: int(l[2]), Num: l[3]}
	c.Pool = api.Pool{Size: int(l[4]), Min: int(l[5]), PGs: int(l[6]), Domain: int(l[7])}
	if len(b) > 0 {
		return api.Inc{}, api.ErrForm
	}
	if !incByWords(c) {
		return api.Inc{}, api.ErrState
	}
	return c, api.OK
}

func TestDecodeByWords(t *testing.T) {
	r := rand.New(rand.NewSource(3))
	var often [3]int
	for range 50000 {
		b := []byte(Encode(chanceInc(r, full())))
		for range r.Intn(3) {
			switch at := r.Intn(len(b)); r.Intn(4) {
			case 0:
				b[at] = byte(r.Intn(256))
			case 1:
				b[at] ^= 1 << r.Intn(8)
			case 2:
				b = append(b[:at:at], append([]byte{pick[byte](r, 0, 1, 2, 0x80, 0x81, 0xff)}, b[at:]...)...)
			case 3:
				if len(b) > 1 {
					b = append(b[:at:at], b[at+1:]...)
				}
			}
		}
		c, e := decodeByWords(string(b))
		wantDecode(t, string(b), c, e)
		switch e {
		case api.OK:
			often[0]++
		case api.ErrForm:
			often[1]++
		case api.ErrState:
			often[2]++
		}
	}
	if min(often[0], often[1], often[2]) < 1000 {
		t.Errorf("OK, ErrForm, ErrState: %v", often)
	}
}

// P13.11, of texts

// everyChange is changes that are one, of all kinds, with many of their numbers.
func everyChange() []api.Inc {
	var l []api.Inc
	for _, n := range append(odd(), 10, 100, 1000, 16383, 16384, 1<<21-1, 1<<21, 1<<28-1, 1<<28) {
		for id := range 8 {
			l = append(l, boot(id, n), down(id, n), weigh(id, n), thru(id, n), ban(id, n))
		}
	}
	for i := range 4 * 4 * 9 * 3 {
		l = append(l, pool(i%4, i/4%4, i/16%9, i/144))
	}
	var fit []api.Inc
	for _, c := range l {
		if incByWords(c) {
			fit = append(fit, c)
		}
	}
	return fit
}

func TestThereAndBack(t *testing.T) {
	texts := map[string]api.Inc{}
	changes := map[api.Inc]string{}
	for _, c := range everyChange() {
		s := Encode(c)
		if other, is := texts[s]; is && other != c {
			t.Fatalf("%+v and %+v: %x", c, other, s)
		}
		if len(s) > api.MaxValue {
			t.Fatalf("%+v: %d bytes", c, len(s))
		}
		texts[s], changes[c] = c, s
		wantDecode(t, s, c, api.OK)
	}
	if len(texts) != len(changes) || len(texts) < 500 {
		t.Errorf("%d texts of %d changes", len(texts), len(changes))
	}
}

// What Decode takes is what Encode gives: there is no other text of a change.
func TestBackAndThere(t *testing.T) {
	for i := range 1 << 16 {
		s := string([]byte{byte(i % 8), byte(i / 8 % 4), byte(i / 32 % 2), byte(i / 64 % 4), byte(i / 256 % 4), byte(i / 1024 % 4), byte(i / 4096 % 4), byte(i / 16384)})
		if c, e := Decode(s); e == api.OK {
			wantEncode(t, c, s)
		} else if e != api.ErrState || c != (api.Inc{}) {
			t.Fatalf("Decode(%x): %+v, %v", s, c, e)
		}
	}
}
