package wire

import (
	"encoding/hex"
	"math"
	"math/rand"
	"slices"
	"strings"
	"testing"

	"reef/api"
)

// P4.2

// unhex is bytes from hexadecimal digits, with spaces between.
func unhex(t *testing.T, s string) []byte {
	t.Helper()
	b, err := hex.DecodeString(strings.ReplaceAll(s, " ", ""))
	if err != nil {
		t.Fatal(err)
	}
	return b
}

func ping() api.Msg {
	return api.Msg{Kind: api.MsPing, From: api.Addr{Kind: api.NdOsd, Id: 1}, To: api.Addr{Kind: api.NdOsd, Id: 2}, Boot: 3}
}

func TestExample(t *testing.T) {
	m := ping()
	b := Encode(m)
	if len(b) != 14 || hex.EncodeToString(b[:10]) != "a70d0500000201020203" {
		t.Fatalf("%x", b)
	}
	wantMsg(t, b, m)
	wantError(t, append(slices.Clone(b), 0), api.ErrForm)
	m.Boot = 0
	wantUnfit(t, "boot 0", m)
}

func TestBytesOfEachKind(t *testing.T) {
	ends := "03 02 02 06 ac 02 " // client 2, osd 6, boot 300
	entry := func(epoch, ver, client, inst, kind, off, err string) string {
		return epoch + ver + client + inst + "ac 02" + kind + "06 41 6e 79 20 00 ff" + off + "80 80 80 80 80 40 06 62 79 74 65 73 00" + err + "01 80 80 80 80 80 80 80 04 05 00 a7 72 65 73"
	}
	res := func(err string) string { return err + "01 80 80 80 80 80 80 80 04 05 00 a7 72 65 73" }
	first := entry("07", "03", "01", "c8 01", "01", "05", "01")
	second := entry("07", "04", "02", "c9 01", "02", "07", "02")
	third := entry("08", "05", "03", "ca 01", "03", "09", "03")
	fifth := entry("09", "07", "02", "cc 01", "05", "0d", "05")
	pg, num := "01 07", "80 80 80 80 20"
	start := "e8 07"
	info := "05 e7 07 05 04 02" + first + second
	dups := "02 01 09 82 01" + res("02") + "02 09 82 01" + res("03")
	objects := "02 03 6e 5f 61 06 00 ff 64 61 74 61 01 03 05 03 6e 5f 62 06 00 ff 64 61 74 61 01 03 05"
	push := "01 e6 07 06 05 03" + first + second + third + dups + objects + "02 04 67 6f 6e 65 06 67 6f 6e 65 2e 32"
	for k, parts := range map[int]string{
		api.MsPrepare:  "82 01 04 14",
		api.MsPromise:  "82 01 04" + num + "14 03 01 61 01 00 03 63 63 63 01 09 01 05 76 61 6c 75 65",
		api.MsNack:     "82 01 04",
		api.MsAccept:   "82 01 04" + num + "05 76 61 6c 75 65",
		api.MsAccepted: "82 01 04" + num,
		api.MsBeat:     "82 01 04" + num,
		api.MsAsk:      "14",
		api.MsTell:     "14 03 01 61 01 00 03 63 63 63",
		api.MsBoot:     "",
		api.MsDown:     "03" + num,
		api.MsThru:     num,
		api.MsBan:      "03" + num,
		api.MsPing:     "",
		api.MsPong:     "",
		api.MsQuery:    pg + start,
		api.MsInfo:     pg + start + info,
		api.MsPull:     pg + start + info,
		api.MsPush:     pg + start + push,
		api.MsActivate: pg + start + push,
		api.MsActive:   pg + start,
		api.MsSub:      pg + start + num + "01" + fifth,
		api.MsAck:      pg + start + num,
		api.MsReq:      pg + num + "03 cd 01 ac 02 06 06 41 6e 79 20 00 ff 0f 80 80 80 80 80 40 06 62 79 74 65 73 00",
		api.MsRes:      pg + "14" + num + res("07"),
	} {
		want := framed(k, unhex(t, ends+parts))
		if b := Encode(sample(k)); string(b) != string(want) {
			t.Errorf("kind %d: %x; want %x", k, b, want)
		}
		wantMsg(t, want, sample(k))
	}
}

// What has no value, or no entry, has its places all the same.
func TestBytesOfWhatIsNotThere(t *testing.T) {
	ends := "01 00 01 01 00"
	for k, parts := range map[int]string{
		api.MsPromise:  "00 00 00 00 00 00 00 00 00",
		api.MsSub:      "00 00 01 00 00" + strings.Repeat("00", 14),
		api.MsInfo:     "00 00 01 00 00 00 00 00",
		api.MsActivate: "00 00 01 00 00 00 00 00 00 00 00",
		api.MsTell:     "00 00",
	} {
		want := framed(k, unhex(t, ends+parts))
		if b := Encode(bare(k)); string(b) != string(want) {
			t.Errorf("kind %d: %x; want %x", k, b, want)
		}
		wantMsg(t, want, bare(k))
	}
}

// greatest is a message of a kind that takes as many bytes as may be.
func greatest(kind int) api.Msg {
	data := strings.Repeat("\xfe", 4096)
	res := api.Res{Err: 999, Num: math.MinInt64, Inst: math.MinInt64, Data: data}
	req := api.Req{Client: 3, Inst: 1 << 30, Tid: 1 << 30, Op: api.Op{Kind: 10, Name: data[:64], Off: math.MaxInt64, Num: math.MinInt64, Data: data}}
	var log []api.Entry
	for i := range 8 {
		log = append(log, api.Entry{At: api.Stamp{Epoch: 1 << 30, Ver: 1<<40 - 7 + int64(i)}, Req: req, Res: res})
	}
	var dups []api.Dup
	for i := range 4 {
		dups = append(dups, api.Dup{Client: i, Inst: 1 << 30, Tid: 1 << 30, Res: res})
	}
	var objects []api.Object
	var gone []string
	for i := range 16 {
		name := strings.Repeat("z", 23) + string(rune('a'+i))
		gone = append(gone, name)
		objects = append(objects, api.Object{Name: name, Data: data[:64], Locked: true, Holder: api.Ban{Client: 3, Inst: 1 << 30}})
	}
	last := api.Stamp{Epoch: 1 << 30, Ver: 1 << 40}
	m := api.Msg{
		Kind: kind, From: api.Addr{Kind: api.NdClient, Id: 3}, To: api.Addr{Kind: api.NdOsd, Id: 7}, Boot: 1 << 30,
		Ballot: api.Ballot{Round: 1 << 30, Mon: 4}, First: 1 << 40, Num: 1 << 40, Osd: 3,
		Has: true, At: api.Ballot{Round: 1 << 30, Mon: 4}, Value: data[:256], Values: slices.Repeat([]string{data[:256]}, 16),
		Pg: api.Pg{Pool: 1, Num: 7}, Start: 1 << 30,
		Info:  api.Info{Osd: 7, Les: 1 << 30, Last: last, Log: log},
		Push:  api.Push{Full: true, Les: 1 << 30, Last: last, Log: log, Dups: dups, Objects: objects, Gone: gone},
		Entry: log[7], Req: req, Res: res,
	}
	othersOfZero(&m)
	return m
}

func TestGreatestMessages(t *testing.T) {
	for _, k := range allKinds() {
		m := greatest(k)
		wantFit(t, "greatest", m)
		b := Encode(m)
		for _, n := range []int{1, 5, 9, 10, 60, len(b) / 2, len(b) - 5, len(b) - 4, len(b) - 1} {
			if n < len(b) {
				wantError(t, b[:n], api.ErrShort)
			}
		}
	}
}

// P4.3

func TestDecodeOfNoFrame(t *testing.T) {
	good := Encode(ping())
	for _, c := range []struct {
		b   string
		err api.Errno
	}{
		{"", api.ErrShort},
		{"\x00", api.ErrForm},
		{"\xa6" + string(good[1:]), api.ErrForm},
		{"\xa7", api.ErrShort},
		{"\xa7\x0d\xff\xff\x1f", api.ErrForm},
		{"\xa7\x0d\xff\xff\x0f", api.ErrShort},
		{string(good[:13]), api.ErrShort},
		{string(good[:13]) + "\x00", api.ErrSum},
		{string(good[:13]) + "\x00\x00", api.ErrSum}, // ahead of the byte behind
		{"\xa7\xff\x00\x00\x00\x00\x00\x00\x00", api.ErrSum},
		{"\x00" + string(good), api.ErrForm},
		{string(good) + "\xa7", api.ErrForm},
		{string(good) + string(good), api.ErrForm},
		{string(good) + "\x00", api.ErrForm},
	} {
		wantError(t, []byte(c.b), c.err)
	}
	wantError(t, nil, api.ErrShort)
}

func TestBytesBehindTheFrame(t *testing.T) {
	for _, k := range allKinds() {
		for c := range 256 {
			wantError(t, append(Encode(sample(k)), byte(c)), api.ErrForm)
		}
		unfit := sample(k)
		unfit.To = unfit.From
		wantError(t, byWords(unfit), api.ErrState)
		wantError(t, append(byWords(unfit), 0), api.ErrForm)
	}
}

func TestDecodeOfNoKind(t *testing.T) {
	for k := range 256 {
		if k >= api.MsPrepare && k < api.NumMss {
			continue
		}
		wantError(t, framed(k, bodyByWords(ping())), api.ErrForm)
		wantError(t, framed(k, nil), api.ErrForm)
		wantError(t, framed(k, []byte{0}), api.ErrForm)
		wantError(t, append(framed(k, bodyByWords(ping())), 1), api.ErrForm)
	}
}

func TestBodyWithBytesTooFewOrTooMany(t *testing.T) {
	for _, k := range allKinds() {
		for _, m := range []api.Msg{sample(k), bare(k)} {
			body := bodyByWords(m)
			for n := range body {
				wantError(t, framed(k, body[:n]), api.ErrForm)
			}
			for c := range 256 {
				wantError(t, framed(k, append(slices.Clone(body), byte(c))), api.ErrForm)
			}
			wantError(t, framed(k, append(slices.Clone(body), body...)), api.ErrForm)
		}
		unfit := sample(k)
		unfit.Boot = 0
		body := bodyByWords(unfit)
		wantError(t, framed(k, body), api.ErrState)
		wantError(t, framed(k, append(body, 0)), api.ErrForm)
	}
}

// Bytes that are not of the form, in a body that would be fit otherwise; ahead of what is not fit.
func TestBodyOfAnotherForm(t *testing.T) {
	for _, c := range []struct {
		kind int
		body string
	}{
		{api.MsPing, ""},
		{api.MsPing, "82 00 01 02 02 03"},                                        // a number in more bytes than need be
		{api.MsPing, "02 01 02 02 83 00"},                                        //
		{api.MsPing, "02 01 02 02 80 80 80 80 80 80 80 80 80 01"},                // 2^63
		{api.MsPing, "02 01 02 02 ff ff ff ff ff ff ff ff ff 01"},                //
		{api.MsPing, "02 01 02 02 80 80 80 80 80 80 80 80 80 02"},                // more than 64 bits
		{api.MsPing, "00 01 02 02 80 00"},                                        // no node
		{api.MsAccept, "01 00 01 01 00 01 00 01 02 76"},                          // a text that is too short
		{api.MsAccept, "01 00 01 01 00 01 00 01 81 00 76"},                       //
		{api.MsAccept, "01 00 01 01 00 01 00 01 ff ff ff ff ff ff ff ff 7f 76"},  //
		{api.MsPromise, "01 00 01 01 00 01 00 00 00 00 02 00 00 00"},             // a flag of another byte
		{api.MsPromise, "01 00 01 01 00 01 00 00 00 00 ff 00 00 00"},             //
		{api.MsTell, "01 00 01 01 00 00 01"},                                     // fewer than the list says
		{api.MsTell, "01 00 01 01 00 00 02 00"},                                  //
		{api.MsTell, "01 00 01 01 00 00 ff ff ff ff ff ff ff ff 7f"},             //
		{api.MsTell, "01 00 01 01 00 00 ff ff ff ff ff ff ff ff 7f 00 00"},       //
		{api.MsTell, "01 00 01 01 00 00 00 00"},                                  // more than it says
		{api.MsTell, "01 00 01 01 00 00 80 80 80 80 80 80 80 80 80 01"},          // a count of 2^63
		{api.MsInfo, "01 00 01 01 00 00 00 01 00 00 00 00 ff ff ff ff ff ff 7f"}, //
		{api.MsPush, "01 00 01 01 00 00 00 01 02 00 00 00 00 00 00 00"},          // Full is 2
		{api.MsPush, "01 00 01 01 00 00 00 01 00 00 00 00 00 00 01 01 61 00 02 00 00 00"},
		{api.MsSub, "01 00 01 01 00 00 00 01 00 03" + strings.Repeat("00", 14)},
		{api.MsRes, "01 00 01 01 00 00 00 00 00 00 ff ff ff ff ff ff ff ff ff 02 00 00"},
	} {
		wantError(t, framed(c.kind, unhex(t, c.body)), api.ErrForm)
	}
}

func TestReadButNotFit(t *testing.T) {
	for _, c := range []struct {
		kind int
		body string
	}{
		{api.MsPing, "00 00 00 00 00"},
		{api.MsPing, "02 01 02 01 03"},
		{api.MsPing, "02 01 02 02 00"},
		{api.MsPing, "01 01 02 02 01"},
		{api.MsPing, "01 05 02 02 00"},
		{api.MsPing, "02 01 04 02 03"},
		{api.MsPing, "ff ff ff ff ff ff ff ff 7f 01 02 02 03"},
		{api.MsPing, "02 81 80 80 80 10 02 02 03"}, // the storage node 2^32 + 1
		{api.MsPing, "82 80 80 80 10 01 02 02 03"}, // the kind 2^32 + 2
		{api.MsAccept, "01 00 01 01 00 01 00 01 00"},
		{api.MsPromise, "01 00 01 01 00 01 00 00 00 00 01 01 00 00"},
		{api.MsPromise, "01 00 01 01 00 01 00 00 00 00 00 01 00 00"},
		{api.MsPromise, "01 00 01 01 00 01 00 00 00 00 00 00 00 01 76"},
		{api.MsTell, "01 00 01 01 00 00 11" + strings.Repeat("00", 17)},
		{api.MsQuery, "01 00 01 01 00 00 00 00"},
		{api.MsSub, "01 00 01 01 00 00 00 01 00 01" + strings.Repeat("00", 14)},
		{api.MsSub, "01 00 01 01 00 00 00 01 00 00" + strings.Repeat("00", 13) + "01 61"},
		{api.MsRes, "01 00 01 01 00 00 00 00 00 e8 07 00 00 00"},
	} {
		wantError(t, framed(c.kind, unhex(t, c.body)), api.ErrState)
	}
}

// As many items as a frame can bear are read, and refused, and nothing is made of a count that lies.
func TestListsOfMany(t *testing.T) {
	ends := unhex(t, "01 00 01 01 00 00")
	n := api.MaxBody - len(ends) - 3
	b := append(ends, byte(n)|0x80, byte(n>>7)|0x80, byte(n>>14))
	b = append(b, make([]byte, n)...)
	wantError(t, framed(api.MsTell, b), api.ErrState)
	wantError(t, framed(api.MsTell, b[:len(b)-1]), api.ErrForm)
	b[len(ends)]++
	wantError(t, framed(api.MsTell, b), api.ErrForm)
}

// What is of one kind's form is read as another kind's, or not, but never wrongly.
func TestBodiesUnderOtherKinds(t *testing.T) {
	for _, k := range allKinds() {
		for _, m := range []api.Msg{sample(k), bare(k), greatest(k)} {
			body := bodyByWords(m)
			for _, other := range allKinds() {
				checkBytes(t, framed(other, body))
				if slices.Equal(tableOfParts(k), tableOfParts(other)) && k != api.MsBan && k != api.MsDown {
					n := m
					n.Kind = other
					wantMsg(t, framed(other, body), n)
				}
			}
		}
	}
}

func TestDecodeLeavesItsBytes(t *testing.T) {
	for _, k := range allKinds() {
		m := sample(k)
		room := append(Encode(m), "spare room"...)
		b := room[:len(room)-10]
		was := string(room)
		n, e := Decode(b)
		if e != api.OK || string(b[:cap(b)][:len(was)]) != was {
			t.Fatalf("kind %d: the bytes were changed", k)
		}
		clear(room)
		if !alike(m, n) {
			t.Fatalf("kind %d: the message changed with the bytes", k)
		}
	}
}

// P4.5 to P4.7

// checkBytes asks of any bytes what holds of all.
func checkBytes(t *testing.T, b []byte) {
	t.Helper()
	m, e := Decode(b)
	if e != api.OK {
		wantError(t, b, e)
		return
	}
	if !Fit(m) {
		t.Fatalf("Decode(%x) is not fit: %+v", b, m)
	}
	if again := Encode(m); string(again) != string(b) || string(again) != string(byWords(m)) {
		t.Fatalf("Decode(%x), encoded again: %x; by words: %x", b, again, byWords(m))
	}
}

func TestChanceMessagesThereAndBack(t *testing.T) {
	r := rand.New(rand.NewSource(4))
	seen := map[string]api.Msg{}
	for range 6000 {
		m := chance(r, 1+r.Intn(api.NumMss-1))
		wantFit(t, "chance", m)
		b := string(Encode(m))
		if n, ok := seen[b]; ok && !alike(m, n) {
			t.Fatalf("unlike messages with the bytes %x: %+v, %+v", b, m, n)
		}
		seen[b] = m
	}
}

// A message that is changed anywhere, and fit still, has other bytes.
func TestUnlikeMessagesHaveUnlikeBytes(t *testing.T) {
	for _, k := range allKinds() {
		was := Encode(sample(k))
		fit := 0
		eachChange(sample(k), func(what string, m api.Msg) {
			if Fit(m) {
				fit++
				wantFit(t, what, m)
				if string(Encode(m)) == string(was) {
					t.Errorf("kind %d, %s changed: the bytes are the same", k, what)
				}
			}
		})
		if fit == 0 {
			t.Errorf("kind %d: no change was fit", k)
		}
	}
}

func TestCutOffAnywhere(t *testing.T) {
	for _, k := range allKinds() {
		for _, m := range []api.Msg{sample(k), bare(k)} {
			b := Encode(m)
			for n := range b {
				wantError(t, b[:n:n], api.ErrShort)
				// What lies in the spare room is not there.
				wantError(t, b[:n], api.ErrShort)
			}
		}
	}
}

func TestAnyByteChanged(t *testing.T) {
	for _, k := range allKinds() {
		for _, m := range []api.Msg{sample(k), bare(k)} {
			b := Encode(m)
			for i, was := range b {
				for c := range 256 {
					if b[i] = byte(c); b[i] == was {
						continue
					}
					if n, e := Decode(b); e == api.OK || !alike(n, api.Msg{}) {
						t.Fatalf("kind %d, byte %d is %d: %+v, %v", k, i, c, n, e)
					}
				}
				b[i] = was
			}
			wantMsg(t, b, m)
		}
	}
}

// A byte changed under a sum that is right again: it is another message, or none.
func TestBodyWithAnyByteChanged(t *testing.T) {
	for _, k := range allKinds() {
		for _, m := range []api.Msg{sample(k), bare(k)} {
			body := bodyByWords(m)
			for i, was := range body {
				for _, c := range []byte{0, 1, 2, 3, was + 1, was - 1, was ^ 0x80, 0x7f, 0x80, 0xff} {
					body[i] = c
					b := framed(k, body)
					checkBytes(t, b)
					if n, e := Decode(b); c != was && e == api.OK && alike(m, n) {
						t.Fatalf("kind %d, byte %d is %d: the same message", k, i, c)
					}
				}
				body[i] = was
			}
		}
	}
}

func FuzzBody(f *testing.F) {
	for _, k := range allKinds() {
		f.Add(byte(k), bodyByWords(sample(k)))
		f.Add(byte(k), bodyByWords(bare(k)))
	}
	f.Add(byte(0), []byte{})
	f.Fuzz(func(t *testing.T, kind byte, body []byte) { checkBytes(t, framed(int(kind), body)) })
}

func FuzzDecode(f *testing.F) {
	for _, k := range allKinds() {
		f.Add(byWords(sample(k)))
	}
	f.Fuzz(func(t *testing.T, b []byte) { checkBytes(t, b) })
}
