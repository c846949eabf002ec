package wire

import (
	"math"
	"math/rand"
	"reflect"
	"testing"

	"reef/api"
)

// P4.4

// wantSame asks of two messages, both ways, whether they are the same.
func wantSame(t *testing.T, what string, a, b api.Msg, same bool) {
	t.Helper()
	if Same(a, b) != same || Same(b, a) != same {
		t.Errorf("%s: Same %v, %v; want %v", what, Same(a, b), Same(b, a), same)
	}
}

// everyMessage is messages of all kinds, fit and not.
func everyMessage() []api.Msg {
	l := []api.Msg{{}, {Kind: -1}, {Boot: math.MinInt64}, {Osd: math.MinInt}}
	for _, k := range append(allKinds(), 0, -5, api.NumMss) {
		l = append(l, full(k))
	}
	for _, k := range allKinds() {
		l = append(l, sample(k), bare(k), greatest(k))
	}
	return l
}

func TestSameAsItself(t *testing.T) {
	for _, m := range everyMessage() {
		wantSame(t, "itself", m, m, true)
		wantSame(t, "a copy", m, copied(m), true)
	}
}

func TestSameOfUnlikeMessages(t *testing.T) {
	l := everyMessage()
	for i, a := range l {
		for j, b := range l {
			wantSame(t, "two of all", a, b, i == j || alike(a, b))
		}
	}
}

// Whatever the kind is, each field counts, whether it is of its parts or not.
func TestSameGoesByEachField(t *testing.T) {
	for _, m := range []api.Msg{full(0), full(api.MsPing), full(api.MsPush), sample(api.MsActivate), {}, bare(api.MsSub), {Kind: -1, Boot: -1}} {
		n := 0
		eachChange(m, func(what string, c api.Msg) {
			n++
			wantSame(t, what, m, c, alike(m, c))
		})
		if n < 50 {
			t.Errorf("%d changes only", n)
		}
	}
}

func TestSameOfNilAndEmptyLists(t *testing.T) {
	for _, m := range []api.Msg{{}, full(api.MsPush), bare(api.MsPush)} {
		m.Values, m.Info.Log, m.Push.Log, m.Push.Dups, m.Push.Objects, m.Push.Gone = nil, nil, nil, nil, nil, nil
		for i := range 6 {
			n := m
			v := []reflect.Value{
				reflect.ValueOf(&n.Values), reflect.ValueOf(&n.Info.Log), reflect.ValueOf(&n.Push.Log),
				reflect.ValueOf(&n.Push.Dups), reflect.ValueOf(&n.Push.Objects), reflect.ValueOf(&n.Push.Gone),
			}[i].Elem()
			v.Set(reflect.MakeSlice(v.Type(), 0, 0))
			wantSame(t, "nil and empty", m, n, true)
			v.Set(reflect.MakeSlice(v.Type(), 1, 1).Slice(0, 0))
			wantSame(t, "nil and empty with room", m, n, true)
			v.Set(reflect.MakeSlice(v.Type(), 1, 1))
			wantSame(t, "none and a zero one", m, n, false)
		}
	}
}

// What stands in one list is not the same as what stands in another one, nor the same texts in other pieces.
func TestSameGoesByPlaces(t *testing.T) {
	wantSame(t, "other pieces", api.Msg{Values: []string{"ab"}}, api.Msg{Values: []string{"a", "b"}}, false)
	wantSame(t, "other pieces", api.Msg{Values: []string{"ab", ""}}, api.Msg{Values: []string{"a", "b"}}, false)
	wantSame(t, "another order", api.Msg{Values: []string{"a", "b"}}, api.Msg{Values: []string{"b", "a"}}, false)
	wantSame(t, "another list", api.Msg{Values: []string{"a"}}, api.Msg{Push: api.Push{Gone: []string{"a"}}}, false)
	wantSame(t, "another log", api.Msg{Info: api.Info{Log: sampleLog(2)}}, api.Msg{Push: api.Push{Log: sampleLog(2)}}, false)
	wantSame(t, "another number", api.Msg{First: 1}, api.Msg{Num: 1}, false)
	wantSame(t, "another ballot", api.Msg{Ballot: api.Ballot{Round: 1}}, api.Msg{At: api.Ballot{Round: 1}}, false)
	wantSame(t, "another kind", api.Msg{Kind: 1}, api.Msg{Kind: 257}, false)
	wantSame(t, "numbers of 64 bits", api.Msg{Num: 1}, api.Msg{Num: 1 + 1<<32}, false)
	wantSame(t, "a text's bytes", api.Msg{Value: "\xff"}, api.Msg{Value: "\xfe"}, false)
	wantSame(t, "the ends", api.Msg{From: api.Addr{Kind: 1}}, api.Msg{To: api.Addr{Kind: 1}}, false)
}

func TestSameOfChanceMessages(t *testing.T) {
	r := rand.New(rand.NewSource(5))
	for range 500 {
		m := chance(r, 1+r.Intn(api.NumMss-1))
		wantSame(t, "a copy", m, copied(m), true)
		n := chance(r, m.Kind)
		wantSame(t, "two of a kind", m, n, alike(m, n))
	}
}

// 0.5

// roomy is a list with another item in its spare room.
func roomy[T any](l []T, next T) []T { return append(append([]T{}, l...), next)[:len(l)] }

func TestMessagesAreLeftAsTheyAre(t *testing.T) {
	build := func(k int) api.Msg {
		m := full(k)
		m.Values = roomy(m.Values, "spare")
		m.Info.Log = roomy(m.Info.Log, sampleEntry(7))
		p := &m.Push
		p.Log, p.Dups = roomy(p.Log, sampleEntry(7)), roomy(p.Dups, sampleDup(3))
		p.Objects, p.Gone = roomy(p.Objects, sampleObject("spare")), roomy(p.Gone, "spare")
		return m
	}
	room := func(m api.Msg) []any {
		p := m.Push
		return []any{m, m.Values[:4], m.Info.Log[:3], p.Log[:4], p.Dups[:3], p.Objects[:3], p.Gone[:3]}
	}
	for _, k := range append(allKinds(), 0) {
		m := build(k)
		own := m
		othersOfZero(&own)
		for _, n := range []api.Msg{m, own} {
			Fit(n)
			Encode(n)
			Same(n, m)
		}
		if !reflect.DeepEqual(room(m), room(build(k))) {
			t.Errorf("kind %d: the message was changed: %+v", k, room(m))
		}
		if k > 0 {
			wantFit(t, "with spare room", own)
		}
	}
}

func TestAnswersAreNewMemory(t *testing.T) {
	for _, k := range allKinds() {
		m := sample(k)
		b := Encode(m)
		clear(b)
		wantFit(t, "behind a change of its bytes", m)
		b = Encode(m)
		one, _ := Decode(b)
		two, _ := Decode(b)
		eachItem(&one, func(at reflect.Value) { at.SetZero() })
		if !alike(two, m) || !alike(sample(k), m) {
			t.Errorf("kind %d: two answers share their memory", k)
		}
	}
}

// eachItem calls f with each item of each list of a message.
func eachItem(m *api.Msg, f func(at reflect.Value)) {
	for _, l := range []any{m.Values, m.Info.Log, m.Push.Log, m.Push.Dups, m.Push.Objects, m.Push.Gone} {
		v := reflect.ValueOf(l)
		for i := range v.Len() {
			f(v.Index(i))
		}
	}
}
