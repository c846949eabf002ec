package wire

import (
	"math"
	"reflect"
	"slices"
	"strings"
	"testing"

	"reef/api"
)

// P4.1

func TestSamplesAreFit(t *testing.T) {
	for _, k := range allKinds() {
		wantFit(t, "sample", sample(k))
		wantFit(t, "bare", bare(k))
	}
}

func TestKindsThatAreNone(t *testing.T) {
	for _, k := range []int{0, -1, api.NumMss, api.NumMss + 1, 255, 256, 256 + api.MsPing, 1<<32 + api.MsPing, -256 + api.MsPing, math.MaxInt, math.MinInt} {
		m := sample(api.MsPing)
		m.Kind = k
		wantUnfit(t, "kind", m)
		m = full(k)
		wantUnfit(t, "kind", m)
		wantUnfit(t, "zero", api.Msg{Kind: k})
	}
	for _, k := range allKinds() {
		wantUnfit(t, "zero", api.Msg{Kind: k})
	}
}

// bounds is a number of messages, and from where to where it may be.
type bounds struct {
	what        string
	kinds       []int
	set         func(m *api.Msg, x int64)
	least, most int64
}

func messageBounds() []bounds {
	no := []bounds{
		{"Ballot.Round", kindsWith("Ballot"), func(m *api.Msg, x int64) { m.Ballot = api.Ballot{Round: x} }, 0, 1 << 30},
		{"Ballot.Mon", kindsWith("Ballot"), func(m *api.Msg, x int64) { m.Ballot.Mon = int(x) }, 0, 4},
		{"At.Round", kindsWith("At"), func(m *api.Msg, x int64) { m.At = api.Ballot{Round: x} }, 0, 1 << 30},
		{"At.Mon", kindsWith("At"), func(m *api.Msg, x int64) { m.At.Mon = int(x) }, 0, 4},
		{"First", kindsWith("First"), func(m *api.Msg, x int64) { m.First = x }, 0, 1 << 40},
		{"Num", kindsWith("Num"), func(m *api.Msg, x int64) { m.Num = x }, 0, 1 << 40},
		{"Osd", []int{api.MsDown}, func(m *api.Msg, x int64) { m.Osd = int(x) }, 0, 7},
		{"Osd", []int{api.MsBan}, func(m *api.Msg, x int64) { m.Osd = int(x) }, 0, 3},
		{"Pg.Pool", kindsWith("Pg"), func(m *api.Msg, x int64) { m.Pg.Pool = int(x) }, 0, 1},
		{"Pg.Num", kindsWith("Pg"), func(m *api.Msg, x int64) { m.Pg.Num = int(x) }, 0, 7},
		{"Start", kindsWith("Start"), func(m *api.Msg, x int64) { m.Start = x }, 1, 1 << 30},
		{"Info.Osd", kindsWith("Info"), func(m *api.Msg, x int64) { m.Info.Osd = int(x) }, 0, 7},
		{"Info.Les", kindsWith("Info"), func(m *api.Msg, x int64) { m.Info.Les = x }, 0, 1 << 30},
		{"Info.Last.Epoch", kindsWith("Info"), func(m *api.Msg, x int64) { m.Info.Last.Epoch = x }, 1, 1 << 30},
		{"Info.Last.Ver", kindsWith("Info"), func(m *api.Msg, x int64) { m.Info.Last.Ver = x }, 1, 1 << 40},
		{"Push.Les", kindsWith("Push"), func(m *api.Msg, x int64) { m.Push.Les = x }, 0, 1 << 30},
		{"Push.Last.Epoch", kindsWith("Push"), func(m *api.Msg, x int64) { m.Push.Last.Epoch = x }, 1, 1 << 30},
		{"Push.Last.Ver", kindsWith("Push"), func(m *api.Msg, x int64) { m.Push.Last.Ver = x }, 1, 1 << 40},
		{"Push.Dups.Inst", kindsWith("Push"), func(m *api.Msg, x int64) { m.Push.Dups[1].Inst = x }, 1, 1 << 30},
		{"Push.Dups.Tid", kindsWith("Push"), func(m *api.Msg, x int64) { m.Push.Dups[0].Tid = x }, 1, 1 << 30},
		{"Push.Dups[0].Client", kindsWith("Push"), func(m *api.Msg, x int64) { m.Push.Dups[0].Client = int(x) }, 0, 1},
		{"Push.Dups[1].Client", kindsWith("Push"), func(m *api.Msg, x int64) { m.Push.Dups[1].Client = int(x) }, 2, 3},
		{"Push.Objects.Holder.Client", kindsWith("Push"), func(m *api.Msg, x int64) { m.Push.Objects[1].Holder.Client = int(x) }, 0, 3},
		{"Push.Objects.Holder.Inst", kindsWith("Push"), func(m *api.Msg, x int64) { m.Push.Objects[0].Holder.Inst = x }, 1, 1 << 30},
		{"Boot", allKinds(), func(m *api.Msg, x int64) { m.Boot = x }, 1, 1 << 30},
	}
	no = append(no, requestBounds("Req", kindsWith("Req"), func(m *api.Msg) *api.Req { return &m.Req })...)
	no = append(no, resultBounds("Res", kindsWith("Res"), func(m *api.Msg) *api.Res { return &m.Res })...)
	no = append(no, resultBounds("Push.Dups.Res", kindsWith("Push"), func(m *api.Msg) *api.Res { return &m.Push.Dups[1].Res })...)
	no = append(no, entryBounds("Entry", kindsWith("Entry"), func(m *api.Msg) *api.Entry { return &m.Entry })...)
	no = append(no, entryBounds("Info.Log", kindsWith("Info"), func(m *api.Msg) *api.Entry { return &m.Info.Log[0] })...)
	return append(no, entryBounds("Push.Log", kindsWith("Push"), func(m *api.Msg) *api.Entry { return &m.Push.Log[0] })...)
}

func requestBounds(what string, kinds []int, at func(m *api.Msg) *api.Req) []bounds {
	return []bounds{
		{what + ".Client", kinds, func(m *api.Msg, x int64) { at(m).Client = int(x) }, 0, 3},
		{what + ".Inst", kinds, func(m *api.Msg, x int64) { at(m).Inst = x }, 1, 1 << 30},
		{what + ".Tid", kinds, func(m *api.Msg, x int64) { at(m).Tid = x }, 1, 1 << 30},
		{what + ".Op.Kind", kinds, func(m *api.Msg, x int64) { at(m).Op.Kind = int(x) }, 1, 10},
		{what + ".Op.Off", kinds, func(m *api.Msg, x int64) { at(m).Op.Off = x }, math.MinInt64, math.MaxInt64},
		{what + ".Op.Num", kinds, func(m *api.Msg, x int64) { at(m).Op.Num = x }, math.MinInt64, math.MaxInt64},
	}
}

func resultBounds(what string, kinds []int, at func(m *api.Msg) *api.Res) []bounds {
	return []bounds{
		{what + ".Err", kinds, func(m *api.Msg, x int64) { at(m).Err = api.Errno(x) }, 0, 999},
		{what + ".Num", kinds, func(m *api.Msg, x int64) { at(m).Num = x }, math.MinInt64, math.MaxInt64},
		{what + ".Inst", kinds, func(m *api.Msg, x int64) { at(m).Inst = x }, math.MinInt64, math.MaxInt64},
	}
}

// entryBounds sets the first stamp of a log from nothing on: the next ones are beyond it, as far as it may go.
func entryBounds(what string, kinds []int, at func(m *api.Msg) *api.Entry) []bounds {
	alone := func(m *api.Msg) *api.Entry {
		if len(m.Info.Log) > 0 {
			m.Info.Log = m.Info.Log[:1]
		}
		if len(m.Push.Log) > 0 {
			m.Push.Log = m.Push.Log[:1]
		}
		return at(m)
	}
	l := []bounds{
		{what + ".At.Epoch", kinds, func(m *api.Msg, x int64) { alone(m).At.Epoch = x }, 1, 1 << 30},
		{what + ".At.Ver", kinds, func(m *api.Msg, x int64) { alone(m).At.Ver = x }, 1, 1 << 40},
	}
	l = append(l, requestBounds(what+".Req", kinds, func(m *api.Msg) *api.Req { return &at(m).Req })...)
	return append(l, resultBounds(what+".Res", kinds, func(m *api.Msg) *api.Res { return &at(m).Res })...)
}

// try is a sample with a number set.
func (b bounds) try(t *testing.T, kind int, x int64) {
	t.Helper()
	m := copied(sample(kind))
	b.set(&m, x)
	// What is below 0 can't be written, but in fields that may be anything.
	wantJudged(t, b.what, m, b.least <= x && x <= b.most, x >= 0)
}

func TestNumbersAtTheirEnds(t *testing.T) {
	for _, b := range messageBounds() {
		if len(b.kinds) == 0 {
			t.Errorf("%s: of no kind", b.what)
		}
		for _, k := range b.kinds {
			for _, x := range []int64{b.least, b.least - 1, b.least + 1, b.most, b.most - 1, b.most + 1, -1, 0, 1, math.MaxInt64, math.MinInt64, 1 << 32, 1<<32 + 1} {
				b.try(t, k, x)
			}
		}
	}
}

// nodes is all nodes there are.
func nodes() []api.Addr {
	var l []api.Addr
	for kind, n := range []int{api.NdMon: 5, api.NdOsd: 8, api.NdClient: 4} {
		for id := range n {
			l = append(l, api.Addr{Kind: kind, Id: id})
		}
	}
	return l
}

func noNodes() []api.Addr {
	l := []api.Addr{{}, {Kind: -1}, {Kind: 4}, {Kind: 256 + api.NdMon}, {Kind: math.MaxInt}, {Kind: math.MinInt}, {Kind: 0, Id: 1}}
	for kind, n := range []int{api.NdMon: 5, api.NdOsd: 8, api.NdClient: 4} {
		if kind > 0 {
			l = append(l, api.Addr{Kind: kind, Id: n}, api.Addr{Kind: kind, Id: -1}, api.Addr{Kind: kind, Id: math.MaxInt}, api.Addr{Kind: kind, Id: math.MinInt})
		}
	}
	return l
}

// from is a message with other ends, and a boot number as its sender has it.
func from(m api.Msg, a, b api.Addr) api.Msg {
	m.From, m.To, m.Boot = a, b, 1
	if a.Kind == api.NdMon {
		m.Boot = 0
	}
	return m
}

func TestNodes(t *testing.T) {
	for _, k := range allKinds() {
		for _, a := range nodes() {
			for _, b := range nodes() {
				if k == api.MsPing || a == b || a.Id == b.Id {
					wantJudged(t, "nodes", from(sample(k), a, b), a != b, true)
				}
			}
		}
		for _, a := range noNodes() {
			b := api.Addr{Kind: api.NdOsd, Id: 6}
			written := a.Kind >= 0 && a.Id >= 0
			wantJudged(t, "no sender", from(sample(k), a, b), false, written)
			wantJudged(t, "no receiver", from(sample(k), b, a), false, written)
			wantJudged(t, "none at all", from(sample(k), a, a), false, written)
		}
	}
}

func TestBootOfMonitorsAndOthers(t *testing.T) {
	for _, k := range allKinds() {
		for _, a := range nodes() {
			for _, boot := range []int64{0, 1, 2, 1 << 30, 1<<30 + 1, -1, math.MaxInt64, math.MinInt64} {
				m := from(sample(k), a, api.Addr{Kind: api.NdOsd, Id: 6})
				if a == m.To {
					m.To.Id = 5
				}
				m.Boot = boot
				fit := boot >= 1 && boot <= 1<<30
				if a.Kind == api.NdMon {
					fit = boot == 0
				}
				wantJudged(t, "boot", m, fit, boot >= 0)
			}
		}
	}
}

func TestBallots(t *testing.T) {
	for _, c := range []struct {
		ballot api.Ballot
		fit    bool
	}{
		{api.Ballot{}, true},
		{api.Ballot{Round: 0, Mon: 1}, false},
		{api.Ballot{Round: 0, Mon: 4}, false},
		{api.Ballot{Round: 0, Mon: -1}, false},
		{api.Ballot{Round: 1, Mon: 0}, true},
		{api.Ballot{Round: 1, Mon: 4}, true},
		{api.Ballot{Round: 1, Mon: 5}, false},
		{api.Ballot{Round: 1, Mon: -1}, false},
		{api.Ballot{Round: 1 << 30, Mon: 4}, true},
		{api.Ballot{Round: 1<<30 + 1, Mon: 4}, false},
		{api.Ballot{Round: -1}, false},
	} {
		written := c.ballot.Round >= 0 && c.ballot.Mon >= 0
		for _, k := range kindsWith("Ballot") {
			m := sample(k)
			m.Ballot = c.ballot
			wantJudged(t, "ballot", m, c.fit, written)
		}
		m := sample(api.MsPromise)
		m.At = c.ballot
		wantJudged(t, "at", m, c.fit, written)
		m.Has, m.Value = false, ""
		wantJudged(t, "at without has", m, c.ballot == api.Ballot{}, written)
	}
}

func TestStamps(t *testing.T) {
	for _, c := range []struct {
		stamp api.Stamp
		fit   bool
	}{
		{api.Stamp{Epoch: 1, Ver: 1}, true},
		{api.Stamp{Epoch: 1 << 30, Ver: 1 << 40}, true},
		{api.Stamp{Epoch: 1, Ver: 0}, false},
		{api.Stamp{Epoch: 0, Ver: 1}, false},
		{api.Stamp{Epoch: 1<<30 + 1, Ver: 1}, false},
		{api.Stamp{Epoch: 1, Ver: 1<<40 + 1}, false},
		{api.Stamp{Epoch: -1, Ver: 1}, false},
		{api.Stamp{Epoch: 1, Ver: -1}, false},
		{api.Stamp{Epoch: -1, Ver: -1}, false},
		{api.Stamp{}, true},
	} {
		written := c.stamp.Epoch >= 0 && c.stamp.Ver >= 0
		for _, k := range allKinds() {
			m := copied(sample(k))
			switch k {
			case api.MsInfo, api.MsPull:
				m.Info.Last = c.stamp
				wantJudged(t, "Info.Last", m, c.fit, written)
				m = copied(sample(k))
				m.Info.Log = m.Info.Log[:1]
				m.Info.Log[0].At = c.stamp
			case api.MsPush, api.MsActivate:
				m.Push.Last = c.stamp
				wantJudged(t, "Push.Last", m, c.fit, written)
				m = copied(sample(k))
				m.Push.Log = m.Push.Log[:1]
				m.Push.Log[0].At = c.stamp
			case api.MsSub:
				m.Entry.At = c.stamp
			default:
				continue
			}
			// An entry's stamp is not zero.
			wantJudged(t, "entry", m, c.fit && c.stamp != api.Stamp{}, written)
		}
		e := sampleEntry(0)
		e.At = c.stamp
		if Entry(e) != (c.fit && c.stamp != api.Stamp{}) {
			t.Errorf("Entry at %+v: %v", c.stamp, Entry(e))
		}
	}
}

// leaves calls f with each place of a value that is neither struct nor list; of a list that is empty with the list itself, of others with those of its items.
func leaves(v reflect.Value, f func(at reflect.Value)) {
	switch {
	case v.Kind() == reflect.Struct:
		for i := range v.NumField() {
			leaves(v.Field(i), f)
		}
	case v.Kind() == reflect.Slice && v.Len() > 0:
		for i := range v.Len() {
			leaves(v.Index(i), f)
		}
	default:
		f(v)
	}
}

// marks is values that are not zero, of a leaf.
func marks(v reflect.Value) []reflect.Value {
	l := []any{true}
	switch v.Kind() {
	case reflect.Int, reflect.Int64:
		l = []any{1, -1, math.MaxInt, math.MinInt}
	case reflect.String:
		l = []any{"a", "\x00"}
	case reflect.Slice:
		l = []any{reflect.MakeSlice(v.Type(), 1, 1).Interface(), reflect.MakeSlice(v.Type(), 2, 2).Interface()}
	}
	var marks []reflect.Value
	for _, x := range l {
		marks = append(marks, reflect.ValueOf(x).Convert(v.Type()))
	}
	return marks
}

// othersOf hands out each place of a message that is of no part of its kind.
func othersOf(m *api.Msg, f func(at reflect.Value)) {
	own := append(tableOfParts(m.Kind), "Kind", "From", "To", "Boot")
	v := reflect.ValueOf(m).Elem()
	for i := range v.NumField() {
		if !slices.Contains(own, v.Type().Field(i).Name) {
			leaves(v.Field(i), f)
		}
	}
}

func TestPartsOfOtherKindsAreZero(t *testing.T) {
	for _, k := range allKinds() {
		n := 0
		for _, m := range []api.Msg{sample(k), bare(k)} {
			othersOf(&m, func(at reflect.Value) {
				for _, x := range marks(at) {
					at.Set(x)
					wantUnfit(t, "a part of another kind", m)
					n++
				}
				at.SetZero()
				wantFit(t, "zero again", m)
			})
		}
		if n == 0 {
			t.Errorf("kind %d: nothing was tried", k)
		}
	}
}

func TestPartsOfOtherKindsMayBeEmptyLists(t *testing.T) {
	for _, k := range allKinds() {
		m := sample(k)
		othersOf(&m, func(at reflect.Value) {
			if at.Kind() == reflect.Slice {
				at.Set(reflect.MakeSlice(at.Type(), 0, 3))
			}
		})
		wantFit(t, "empty lists", m)
	}
}

func TestAllPartsAtOnce(t *testing.T) {
	for _, k := range allKinds() {
		wantUnfit(t, "all parts", full(k))
	}
}

// P4.1: names

func nameCases() map[string]bool {
	l := map[string]bool{
		"": false, "a": true, "z": true, "0": true, "9": true, "_": true, ".": true, "img.0": true, "..": true,
		strings.Repeat("n", 23): true, strings.Repeat("n", 24): true, strings.Repeat("n", 25): false, strings.Repeat("n", 1000): false,
		"a b": false, "A": false, "aB": false, "a-b": false, "a/b": false, "żółw": false, "é": false, "a\x00": false, "\x00": false, "\n": false,
		strings.Repeat("ż", 12): false, strings.Repeat("a", 23) + " ": false, " " + strings.Repeat("a", 23): false,
	}
	for c := range 256 {
		b := byte(c)
		fit := strings.IndexByte("abcdefghijklmnopqrstuvwxyz0123456789_.", b) >= 0
		l[string([]byte{b})] = fit
		l[string([]byte{'a', b})] = fit
		l[string([]byte{b, 'a'})] = fit
	}
	return l
}

func TestNames(t *testing.T) {
	for s, fit := range nameCases() {
		if Name(s) != fit {
			t.Errorf("Name(%q): %v; want %v", s, Name(s), fit)
		}
		for _, k := range kindsWith("Push") {
			m := copied(sample(k))
			m.Push.Objects = []api.Object{sampleObject(s)}
			wantJudged(t, "an object's name", m, fit, true)
			m = copied(sample(k))
			m.Push.Gone = []string{s}
			wantJudged(t, "a name that is gone", m, fit, true)
		}
	}
}

// P4.1: operations, requests, entries

func opCases() []struct {
	op  api.Op
	fit bool
} {
	type c = struct {
		op  api.Op
		fit bool
	}
	l := []c{
		{api.Op{}, false},
		{api.Op{Kind: 1, Name: strings.Repeat("\xff", 64)}, true},
		{api.Op{Kind: 1, Name: strings.Repeat("a", 65)}, false},
		{api.Op{Kind: 1, Name: strings.Repeat("a", 10000)}, false},
		{api.Op{Kind: 1, Data: strings.Repeat("\x00", 4096)}, true},
		{api.Op{Kind: 1, Data: strings.Repeat("\x00", 4097)}, false},
		{api.Op{Kind: 1, Name: strings.Repeat("a", 64), Data: strings.Repeat("\x80", 4096), Off: math.MinInt64, Num: math.MaxInt64}, true},
		{api.Op{Kind: 10, Name: "No Name!", Data: "x", Off: 1, Num: 2}, true},
		{api.Op{Kind: 2, Off: -1, Num: -1}, true},
	}
	for _, k := range []int{-1, 0, 11, 12, 257, math.MaxInt, math.MinInt} {
		l = append(l, c{api.Op{Kind: k}, false}, c{api.Op{Kind: k, Name: "a"}, false})
	}
	for k := range 10 {
		l = append(l, c{api.Op{Kind: k + 1}, true}, c{api.Op{Kind: k + 1, Name: "a", Off: 3, Num: 4, Data: "x"}, true})
	}
	return l
}

func TestOps(t *testing.T) {
	for _, c := range opCases() {
		if Op(c.op) != c.fit {
			t.Errorf("Op(%.200v): %v; want %v", c.op, Op(c.op), c.fit)
		}
		r := sampleReq(1)
		r.Op = c.op
		wantReq(t, r, c.fit)
	}
}

// wantReq asks of a request, and of all that have it, whether they are fit.
func wantReq(t *testing.T, r api.Req, fit bool) {
	t.Helper()
	if Req(r) != fit {
		t.Errorf("Req(%.200v): %v; want %v", r, Req(r), fit)
	}
	written := r.Client >= 0 && r.Inst >= 0 && r.Tid >= 0 && r.Op.Kind >= 0
	m := sample(api.MsReq)
	m.Req = r
	wantJudged(t, "request", m, fit, written)
	e := sampleEntry(1)
	e.Req = r
	wantEntry(t, e, fit, written)
}

// wantEntry asks of an entry, and of all that have it, whether they are fit.
func wantEntry(t *testing.T, e api.Entry, fit, written bool) {
	t.Helper()
	if Entry(e) != fit {
		t.Errorf("Entry(%.200v): %v; want %v", e, Entry(e), fit)
	}
	m := sample(api.MsSub)
	m.Entry = e
	wantJudged(t, "entry", m, fit, written)
	for _, k := range slices.Concat(kindsWith("Info"), kindsWith("Push")) {
		for i := range 2 {
			m := copied(sample(k))
			log := m.Info.Log
			if log == nil {
				log = m.Push.Log
			}
			e.At = log[i].At
			log[i] = e
			wantJudged(t, "entry of a log", m, fit, written)
		}
	}
}

func TestReqs(t *testing.T) {
	wantReq(t, sampleReq(0), true)
	wantReq(t, api.Req{Op: api.Op{Kind: 1}}, false)
	wantReq(t, api.Req{Inst: 1, Tid: 1}, false)
	wantReq(t, api.Req{Inst: 1, Tid: 1, Op: api.Op{Kind: 1}}, true)
	wantReq(t, api.Req{Client: 3, Inst: 1 << 30, Tid: 1 << 30, Op: api.Op{Kind: 10}}, true)
	for _, x := range []int64{-1, 0, 1, 3, 4, 1 << 30, 1<<30 + 1, math.MaxInt64, math.MinInt64} {
		r := sampleReq(0)
		r.Client = int(x)
		wantReq(t, r, x >= 0 && x <= 3)
		r = sampleReq(0)
		r.Inst = x
		wantReq(t, r, x >= 1 && x <= 1<<30)
		r = sampleReq(0)
		r.Tid = x
		wantReq(t, r, x >= 1 && x <= 1<<30)
	}
}

func TestResults(t *testing.T) {
	for _, c := range []struct {
		res api.Res
		fit bool
	}{
		{api.Res{}, true},
		{api.Res{Err: 999, Num: math.MinInt64, Inst: math.MaxInt64, Data: strings.Repeat("\xff", 4096)}, true},
		{api.Res{Err: 1000}, false},
		{api.Res{Err: -1}, false},
		{api.Res{Err: math.MinInt}, false},
		{api.Res{Err: math.MaxInt}, false},
		{api.Res{Data: strings.Repeat("a", 4097)}, false},
	} {
		e := sampleEntry(1)
		e.Res = c.res
		wantEntry(t, e, c.fit, c.res.Err >= 0)
		m := sample(api.MsRes)
		m.Res = c.res
		wantJudged(t, "result", m, c.fit, c.res.Err >= 0)
		for _, k := range kindsWith("Push") {
			m := copied(sample(k))
			m.Push.Dups[0].Res = c.res
			wantJudged(t, "a dup's result", m, c.fit, c.res.Err >= 0)
		}
	}
}
