package wire

import (
	"encoding/binary"
	"hash/crc32"
	"reflect"
	"slices"
	"strings"
	"testing"

	"reef/api"
)

// tableOfParts is the chapter's table: which fields of api.Msg each kind has, in order.
func tableOfParts(kind int) []string {
	return strings.Fields(map[int]string{
		api.MsPrepare:  "Ballot First",
		api.MsPromise:  "Ballot Num First Values Has At Value",
		api.MsNack:     "Ballot",
		api.MsAccept:   "Ballot Num Value",
		api.MsAccepted: "Ballot Num",
		api.MsBeat:     "Ballot Num",
		api.MsAsk:      "First",
		api.MsTell:     "First Values",
		api.MsBoot:     "",
		api.MsPing:     "",
		api.MsPong:     "",
		api.MsDown:     "Osd Num",
		api.MsBan:      "Osd Num",
		api.MsThru:     "Num",
		api.MsQuery:    "Pg Start",
		api.MsActive:   "Pg Start",
		api.MsInfo:     "Pg Start Info",
		api.MsPull:     "Pg Start Info",
		api.MsPush:     "Pg Start Push",
		api.MsActivate: "Pg Start Push",
		api.MsSub:      "Pg Start Num Has Entry",
		api.MsAck:      "Pg Start Num",
		api.MsReq:      "Pg Num Req",
		api.MsRes:      "Pg First Num Res",
	}[kind])
}

// allKinds is the kinds that there are.
func allKinds() []int {
	var l []int
	for k := api.MsPrepare; k < api.NumMss; k++ {
		l = append(l, k)
	}
	return l
}

// kindsWith is the kinds that have a part.
func kindsWith(part string) []int {
	return slices.DeleteFunc(allKinds(), func(k int) bool { return !slices.Contains(tableOfParts(k), part) })
}

func sampleOp(i int) api.Op {
	return api.Op{Kind: 1 + i%10, Name: "Any \x00\xff", Off: -3 - int64(i), Num: 1 << 40, Data: "bytes\x00"}
}

func sampleReq(i int) api.Req {
	return api.Req{Client: 1 + i%3, Inst: 200 + int64(i), Tid: 300, Op: sampleOp(i)}
}

func sampleRes(i int) api.Res {
	return api.Res{Err: api.Errno(1 + i), Num: -1, Inst: 1 << 50, Data: "\x00\xa7res"}
}

func sampleEntry(i int) api.Entry {
	return api.Entry{At: api.Stamp{Epoch: 7 + int64(i/2), Ver: 3 + int64(i)}, Req: sampleReq(i), Res: sampleRes(i)}
}

func sampleLog(n int) []api.Entry {
	var l []api.Entry
	for i := range n {
		l = append(l, sampleEntry(i))
	}
	return l
}

func sampleDup(client int) api.Dup {
	return api.Dup{Client: client, Inst: 9, Tid: 130, Res: sampleRes(client)}
}

func sampleObject(name string) api.Object {
	return api.Object{Name: name, Data: "\x00\xffdata", Locked: true, Holder: api.Ban{Client: 3, Inst: 5}}
}

// names is n names that rise.
func names(n int) []string {
	var l []string
	for i := range n {
		l = append(l, "n_"+string(rune('a'+i)))
	}
	return l
}

func sampleObjects(n int) []api.Object {
	var l []api.Object
	for _, s := range names(n) {
		l = append(l, sampleObject(s))
	}
	return l
}

// full is a message that has all parts, and no field that is zero: what a kind has not must be cleared.
func full(kind int) api.Msg {
	return api.Msg{
		Kind: kind, From: api.Addr{Kind: api.NdClient, Id: 2}, To: api.Addr{Kind: api.NdOsd, Id: 6}, Boot: 300,
		Ballot: api.Ballot{Round: 130, Mon: 4}, First: 20, Num: 1 << 33, Osd: 3,
		Has: true, At: api.Ballot{Round: 9, Mon: 1}, Value: "value", Values: []string{"a", "\x00", "ccc"},
		Pg: api.Pg{Pool: 1, Num: 7}, Start: 1000,
		Info:  api.Info{Osd: 5, Les: 999, Last: api.Stamp{Epoch: 5, Ver: 4}, Log: sampleLog(2)},
		Push:  api.Push{Full: true, Les: 998, Last: api.Stamp{Epoch: 6, Ver: 5}, Log: sampleLog(3), Dups: []api.Dup{sampleDup(1), sampleDup(2)}, Objects: sampleObjects(2), Gone: []string{"gone", "gone.2"}},
		Entry: sampleEntry(4), Req: sampleReq(5), Res: sampleRes(6),
	}
}

// sample is a fit message of a kind, with all its parts.
func sample(kind int) api.Msg {
	m := full(kind)
	v := reflect.ValueOf(&m).Elem()
	for i := range v.NumField() {
		name := v.Type().Field(i).Name
		if !slices.Contains(append(tableOfParts(kind), "Kind", "From", "To", "Boot"), name) {
			v.Field(i).SetZero()
		}
	}
	return m
}

// bare is a fit message of a kind whose parts are as small as may be.
func bare(kind int) api.Msg {
	m := api.Msg{Kind: kind, From: api.Addr{Kind: api.NdMon}, To: api.Addr{Kind: api.NdMon, Id: 1}}
	has := func(part string) bool { return slices.Contains(tableOfParts(kind), part) }
	if has("Start") {
		m.Start = 1
	}
	if kind == api.MsAccept {
		m.Value = "v"
	}
	if has("Req") {
		m.Req = api.Req{Inst: 1, Tid: 1, Op: api.Op{Kind: 1}}
	}
	return m
}

// sheet is bytes that are written by the chapter's words, by nothing of the program.
type sheet struct{ b []byte }

func (s *sheet) nums(l ...int64) {
	for _, x := range l {
		s.b = binary.AppendUvarint(s.b, uint64(x))
	}
}

func (s *sheet) ints(l ...int64) {
	for _, x := range l {
		s.b = binary.AppendVarint(s.b, x)
	}
}

func (s *sheet) text(x string) {
	s.nums(int64(len(x)))
	s.b = append(s.b, x...)
}

func (s *sheet) flag(is bool) {
	if is {
		s.b = append(s.b, 1)
	} else {
		s.b = append(s.b, 0)
	}
}

func (s *sheet) res(r api.Res) {
	s.nums(int64(r.Err))
	s.ints(r.Num, r.Inst)
	s.text(r.Data)
}

func (s *sheet) req(r api.Req) {
	s.nums(int64(r.Client), r.Inst, r.Tid, int64(r.Op.Kind))
	s.text(r.Op.Name)
	s.ints(r.Op.Off, r.Op.Num)
	s.text(r.Op.Data)
}

func (s *sheet) entry(e api.Entry) {
	s.nums(e.At.Epoch, e.At.Ver)
	s.req(e.Req)
	s.res(e.Res)
}

func (s *sheet) log(l []api.Entry) {
	s.nums(int64(len(l)))
	for _, e := range l {
		s.entry(e)
	}
}

func (s *sheet) texts(l []string) {
	s.nums(int64(len(l)))
	for _, x := range l {
		s.text(x)
	}
}

func (s *sheet) info(i api.Info) {
	s.nums(int64(i.Osd), i.Les, i.Last.Epoch, i.Last.Ver)
	s.log(i.Log)
}

func (s *sheet) push(p api.Push) {
	s.flag(p.Full)
	s.nums(p.Les, p.Last.Epoch, p.Last.Ver)
	s.log(p.Log)
	s.nums(int64(len(p.Dups)))
	for _, d := range p.Dups {
		s.nums(int64(d.Client), d.Inst, d.Tid)
		s.res(d.Res)
	}
	s.nums(int64(len(p.Objects)))
	for _, o := range p.Objects {
		s.text(o.Name)
		s.text(o.Data)
		s.flag(o.Locked)
		s.nums(int64(o.Holder.Client), o.Holder.Inst)
	}
	s.texts(p.Gone)
}

func (s *sheet) part(m api.Msg, name string) {
	switch name {
	case "Ballot":
		s.nums(m.Ballot.Round, int64(m.Ballot.Mon))
	case "At":
		s.nums(m.At.Round, int64(m.At.Mon))
	case "First":
		s.nums(m.First)
	case "Num":
		s.nums(m.Num)
	case "Osd":
		s.nums(int64(m.Osd))
	case "Has":
		s.flag(m.Has)
	case "Value":
		s.text(m.Value)
	case "Values":
		s.texts(m.Values)
	case "Pg":
		s.nums(int64(m.Pg.Pool), int64(m.Pg.Num))
	case "Start":
		s.nums(m.Start)
	case "Info":
		s.info(m.Info)
	case "Push":
		s.push(m.Push)
	case "Entry":
		s.entry(m.Entry)
	case "Req":
		s.req(m.Req)
	case "Res":
		s.res(m.Res)
	}
}

// bodyByWords is a message's body, fit or not, as the chapter says it.
func bodyByWords(m api.Msg) []byte {
	var s sheet
	s.nums(int64(m.From.Kind), int64(m.From.Id), int64(m.To.Kind), int64(m.To.Id), m.Boot)
	for _, name := range tableOfParts(m.Kind) {
		s.part(m, name)
	}
	return s.b
}

// framed is a body in a frame, by the words of the frames' chapter.
func framed(kind int, body []byte) []byte {
	n := len(body)
	b := append([]byte{167, byte(kind), byte(n), byte(n >> 8), byte(n >> 16)}, body...)
	return binary.LittleEndian.AppendUint32(b, crc32.Checksum(b[1:], crc32.MakeTable(crc32.Castagnoli)))
}

// byWords is a message's bytes, fit or not.
func byWords(m api.Msg) []byte { return framed(m.Kind, bodyByWords(m)) }

// plain is a message whose empty lists are nil, so that it can be compared as a whole.
func plain(m api.Msg) api.Msg {
	if len(m.Values) == 0 {
		m.Values = nil
	}
	if len(m.Info.Log) == 0 {
		m.Info.Log = nil
	}
	p := &m.Push
	if len(p.Log) == 0 {
		p.Log = nil
	}
	if len(p.Dups) == 0 {
		p.Dups = nil
	}
	if len(p.Objects) == 0 {
		p.Objects = nil
	}
	if len(p.Gone) == 0 {
		p.Gone = nil
	}
	return m
}

// alike tells whether two messages are the same, by nothing of the program.
func alike(a, b api.Msg) bool { return reflect.DeepEqual(plain(a), plain(b)) }

// copied is a message that shares nothing with another one.
func copied(m api.Msg) api.Msg {
	m.Values = slices.Clone(m.Values)
	m.Info.Log = slices.Clone(m.Info.Log)
	p := &m.Push
	p.Log, p.Dups, p.Objects, p.Gone = slices.Clone(p.Log), slices.Clone(p.Dups), slices.Clone(p.Objects), slices.Clone(p.Gone)
	return m
}

// wantMsg asks of bytes that they are read as a message.
func wantMsg(t *testing.T, b []byte, m api.Msg) {
	t.Helper()
	if n, e := Decode(b); e != api.OK || !alike(m, n) {
		t.Fatalf("Decode(%.100x): %+v, %v; want %+v", b, n, e, m)
	}
}

// wantError asks of bytes that they are none, and that nothing stands beside the error.
func wantError(t *testing.T, b []byte, err api.Errno) {
	t.Helper()
	if m, e := Decode(b); e != err || !reflect.DeepEqual(m, api.Msg{}) {
		t.Fatalf("Decode(%.100x): %+v, %v; want %v", b, m, e, err)
	}
}

// wantFit asks of a message that it is taken everywhere: Fit says so, its bytes are those of the chapter, and they are read again.
func wantFit(t *testing.T, what string, m api.Msg) {
	t.Helper()
	if !Fit(m) {
		t.Fatalf("kind %d, %s: not fit: %+v", m.Kind, what, m)
	}
	b := Encode(m)
	if want := byWords(m); string(b) != string(want) {
		t.Fatalf("kind %d, %s: Encode: %x; want %x", m.Kind, what, b, want)
	}
	wantMsg(t, b, m)
	if n, _ := Decode(b); !Same(m, n) || !Same(n, m) {
		t.Fatalf("kind %d, %s: not the same when it is read", m.Kind, what)
	}
}

// wantUnfit asks of a message that it is taken nowhere.
func wantUnfit(t *testing.T, what string, m api.Msg) {
	t.Helper()
	if Fit(m) {
		t.Fatalf("kind %d, %s: fit: %+v", m.Kind, what, m)
	}
	if b := Encode(m); len(b) != 0 {
		t.Fatalf("kind %d, %s: Encode of what is not fit: %x", m.Kind, what, b)
	}
}

// wantJudged is wantFit or wantUnfit; where a message that is not fit can be written, what is read of it must be refused.
func wantJudged(t *testing.T, what string, m api.Msg, fit, written bool) {
	t.Helper()
	if fit {
		wantFit(t, what, m)
		return
	}
	wantUnfit(t, what, m)
	if written {
		wantError(t, byWords(m), api.ErrState)
	}
}
