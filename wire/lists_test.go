package wire

import (
	"slices"
	"strings"
	"testing"

	"reef/api"
)

// P4.1: lists, and what hangs on another part

// withLog is a message of a kind that has a log.
func withLog(kind int, l []api.Entry) api.Msg {
	m := sample(kind)
	if slices.Contains(kindsWith("Info"), kind) {
		m.Info.Log = l
	} else {
		m.Push.Log = l
	}
	return m
}

func logKinds() []int { return slices.Concat(kindsWith("Info"), kindsWith("Push")) }

func TestLogsRise(t *testing.T) {
	type stamps = []api.Stamp
	for _, c := range []struct {
		at  stamps
		fit bool
	}{
		{nil, true},
		{stamps{{Epoch: 1, Ver: 1}}, true},
		{stamps{{Epoch: 1, Ver: 1}, {Epoch: 1, Ver: 2}}, true},
		{stamps{{Epoch: 1, Ver: 1}, {Epoch: 1, Ver: 9}}, true},
		{stamps{{Epoch: 1, Ver: 1}, {Epoch: 2, Ver: 1}}, true},
		{stamps{{Epoch: 1, Ver: 9}, {Epoch: 2, Ver: 1}}, true},
		{stamps{{Epoch: 1, Ver: 9}, {Epoch: 2, Ver: 9}}, true},
		{stamps{{Epoch: 1, Ver: 1}, {Epoch: 1, Ver: 1}}, false},
		{stamps{{Epoch: 1, Ver: 2}, {Epoch: 1, Ver: 1}}, false},
		{stamps{{Epoch: 2, Ver: 1}, {Epoch: 1, Ver: 2}}, false},
		{stamps{{Epoch: 2, Ver: 1}, {Epoch: 1, Ver: 1}}, false},
		{stamps{{Epoch: 1, Ver: 1}, {Epoch: 3, Ver: 2}, {Epoch: 2, Ver: 3}}, false},
		{stamps{{Epoch: 1, Ver: 1}, {Epoch: 3, Ver: 2}, {Epoch: 3, Ver: 2}}, false},
		{stamps{{Epoch: 1, Ver: 1}, {Epoch: 3, Ver: 2}, {Epoch: 3, Ver: 3}}, true},
		{stamps{{}, {Epoch: 1, Ver: 1}}, false},
		{stamps{{}}, false},
		{stamps{{Epoch: 1 << 30, Ver: 1<<40 - 1}, {Epoch: 1 << 30, Ver: 1 << 40}}, true},
		{stamps{{Epoch: 1<<30 - 1, Ver: 1 << 40}, {Epoch: 1 << 30, Ver: 1}}, true},
	} {
		for _, k := range logKinds() {
			var l []api.Entry
			for i, at := range c.at {
				e := sampleEntry(i)
				e.At = at
				l = append(l, e)
			}
			wantJudged(t, "log", withLog(k, l), c.fit, true)
		}
	}
}

func TestLogsOfManyEntries(t *testing.T) {
	for _, k := range logKinds() {
		for n := range 20 {
			wantJudged(t, "log", withLog(k, sampleLog(n)), n <= 8, true)
		}
		// An entry at the end counts as the others do.
		for i := range 8 {
			l := sampleLog(8)
			l[i].Req.Tid = 0
			wantJudged(t, "log with one that is none", withLog(k, l), false, true)
		}
	}
}

func TestDupsRise(t *testing.T) {
	for _, k := range kindsWith("Push") {
		for _, c := range []struct {
			clients []int
			fit     bool
		}{
			{nil, true},
			{[]int{0}, true},
			{[]int{3}, true},
			{[]int{4}, false},
			{[]int{-1}, false},
			{[]int{0, 1, 2, 3}, true},
			{[]int{0, 1, 2, 3, 4}, false},
			{[]int{0, 1, 2, 3, 3}, false},
			{[]int{0, 3}, true},
			{[]int{0, 0}, false},
			{[]int{3, 3}, false},
			{[]int{1, 0}, false},
			{[]int{0, 2, 1}, false},
			{[]int{0, 2, 2, 3}, false},
			{slices.Repeat([]int{0}, 16), false},
			{slices.Repeat([]int{0}, 17), false},
		} {
			m := sample(k)
			m.Push.Dups = nil
			for i, client := range c.clients {
				d := sampleDup(client)
				// Instances that rise do not make up for clients that do not.
				d.Inst, d.Tid = int64(i+1), int64(i+1)
				d.Res = sampleRes(1)
				m.Push.Dups = append(m.Push.Dups, d)
			}
			wantJudged(t, "dups", m, c.fit, !slices.Contains(c.clients, -1))
		}
	}
}

func TestObjectsRise(t *testing.T) {
	for _, k := range kindsWith("Push") {
		for _, c := range []struct {
			names []string
			fit   bool
		}{
			{nil, true},
			{[]string{"a"}, true},
			{[]string{"a", "b"}, true},
			{[]string{"a", "aa"}, true},
			{[]string{".", "0", "_", "a"}, true},
			{[]string{"a10", "a9"}, true},
			{[]string{"a9", "a10"}, false},
			{[]string{"aa", "a"}, false},
			{[]string{"b", "a"}, false},
			{[]string{"a", "a"}, false},
			{[]string{"a", "c", "b"}, false},
			{[]string{"a", "b", "b"}, false},
			{[]string{"a", "_"}, false},
			{names(16), true},
			{names(17), false},
			{names(26), false},
			{append(names(15), "z"), true},
			{append(names(15), ""), false},
			{append(names(15), "Z"), false},
			{append(names(15), "a"), false},
		} {
			m, g := sample(k), sample(k)
			m.Push.Objects = nil
			for _, s := range c.names {
				m.Push.Objects = append(m.Push.Objects, sampleObject(s))
			}
			wantJudged(t, "objects", m, c.fit, true)
			g.Push.Gone = c.names
			wantJudged(t, "names that are gone", g, c.fit, true)
		}
	}
}

func TestObjects(t *testing.T) {
	for _, c := range []struct {
		o   api.Object
		fit bool
	}{
		{api.Object{Name: "a"}, true},
		{api.Object{}, false},
		{api.Object{Data: "a"}, false},
		{api.Object{Name: "a", Data: strings.Repeat("\x00", 64)}, true},
		{api.Object{Name: "a", Data: strings.Repeat("\x00", 65)}, false},
		{api.Object{Name: "a", Data: strings.Repeat("x", 5000)}, false},
		{api.Object{Name: "a", Locked: true}, false},
		{api.Object{Name: "a", Locked: true, Holder: api.Ban{Client: 0, Inst: 1}}, true},
		{api.Object{Name: "a", Locked: true, Holder: api.Ban{Client: 3, Inst: 1 << 30}}, true},
		{api.Object{Name: "a", Locked: true, Holder: api.Ban{Client: 4, Inst: 1}}, false},
		{api.Object{Name: "a", Locked: true, Holder: api.Ban{Client: -1, Inst: 1}}, false},
		{api.Object{Name: "a", Locked: true, Holder: api.Ban{Client: 1, Inst: 0}}, false},
		{api.Object{Name: "a", Locked: true, Holder: api.Ban{Client: 1, Inst: 1<<30 + 1}}, false},
		{api.Object{Name: "a", Locked: true, Holder: api.Ban{Client: 1, Inst: -1}}, false},
		{api.Object{Name: "a", Holder: api.Ban{Client: 1}}, false},
		{api.Object{Name: "a", Holder: api.Ban{Inst: 1}}, false},
		{api.Object{Name: "a", Holder: api.Ban{Client: 1, Inst: 1}}, false},
		{api.Object{Name: "a", Holder: api.Ban{Client: -1}}, false},
		{api.Object{Name: "a", Holder: api.Ban{Inst: -1}}, false},
	} {
		for _, k := range kindsWith("Push") {
			m := sample(k)
			m.Push.Objects = []api.Object{c.o}
			wantJudged(t, "object", m, c.fit, c.o.Holder.Client >= 0 && c.o.Holder.Inst >= 0)
			m.Push.Objects = []api.Object{{Name: "."}, c.o, {Name: "z"}}
			wantJudged(t, "object among others", m, c.fit, c.o.Holder.Client >= 0 && c.o.Holder.Inst >= 0)
		}
	}
}

func TestValues(t *testing.T) {
	long := strings.Repeat("\x00", 256)
	for _, k := range kindsWith("Values") {
		for n := range 20 {
			m := sample(k)
			m.Values = slices.Repeat([]string{""}, n)
			wantJudged(t, "empty values", m, n <= 16, true)
			m.Values = slices.Repeat([]string{long}, n)
			wantJudged(t, "long values", m, n <= 16, true)
			m.Values = append(slices.Repeat([]string{"v"}, n), long+"x")
			wantJudged(t, "one that is too long", m, false, true)
			m.Values = append([]string{long + "x"}, slices.Repeat([]string{"v"}, n)...)
			wantJudged(t, "one that is too long", m, false, true)
		}
		// They need not rise, nor be unlike.
		m := sample(k)
		m.Values = []string{"b", "a", "b"}
		wantFit(t, "values in no order", m)
	}
}

func TestValue(t *testing.T) {
	for _, n := range []int{0, 1, 2, 255, 256, 257, 10000} {
		v := strings.Repeat("\xff", n)
		m := sample(api.MsAccept)
		m.Value = v
		wantJudged(t, "value", m, n >= 1 && n <= 256, true)
		m = sample(api.MsPromise)
		m.Value = v
		wantJudged(t, "value", m, n >= 1 && n <= 256, true)
		m.At = api.Ballot{}
		wantJudged(t, "value of the zero ballot", m, n >= 1 && n <= 256, true)
		m.Has = false
		wantJudged(t, "value without has", m, n == 0, true)
		m.At = api.Ballot{Round: 1}
		wantJudged(t, "value and at without has", m, false, true)
	}
	m := sample(api.MsAccept)
	m.Has = true
	wantUnfit(t, "has of an accept", m)
}

func TestEntryAndHas(t *testing.T) {
	m := sample(api.MsSub)
	m.Entry = api.Entry{}
	wantJudged(t, "has without an entry", m, false, true)
	m.Has = false
	wantFit(t, "neither", m)
	m.Entry = sampleEntry(1)
	wantJudged(t, "an entry without has", m, false, true)
	for i, e := range []api.Entry{
		{At: api.Stamp{Epoch: 1}}, {At: api.Stamp{Ver: 1}},
		{Req: api.Req{Client: 1}}, {Req: api.Req{Inst: 1}}, {Req: api.Req{Tid: 1}},
		{Req: api.Req{Op: api.Op{Kind: 1}}}, {Req: api.Req{Op: api.Op{Name: "a"}}}, {Req: api.Req{Op: api.Op{Off: 1}}},
		{Req: api.Req{Op: api.Op{Num: -1}}}, {Req: api.Req{Op: api.Op{Data: "\x00"}}},
		{Res: api.Res{Err: 1}}, {Res: api.Res{Num: 1}}, {Res: api.Res{Inst: -1}}, {Res: api.Res{Data: "a"}},
	} {
		m.Entry = e
		wantJudged(t, "part of an entry without has", m, false, true)
		if Entry(e) {
			t.Errorf("%d: %+v is an entry", i, e)
		}
	}
	if Entry(api.Entry{}) {
		t.Error("the zero entry is one")
	}
}

func TestBareLists(t *testing.T) {
	for _, k := range kindsWith("Push") {
		m := bare(k)
		m.Push = api.Push{Log: []api.Entry{}, Dups: []api.Dup{}, Objects: []api.Object{}, Gone: []string{}}
		wantFit(t, "empty lists", m)
	}
	for _, k := range kindsWith("Info") {
		m := bare(k)
		m.Info.Log = []api.Entry{}
		wantFit(t, "an empty log", m)
	}
	for _, k := range kindsWith("Values") {
		m := bare(k)
		m.Values = []string{}
		wantFit(t, "empty values", m)
	}
}
