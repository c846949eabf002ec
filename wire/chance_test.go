package wire

import (
	"math"
	"math/rand"
	"reflect"
	"slices"
	"strconv"

	"reef/api"
)

// othersOfZero makes zero what is no part of a message's kind.
func othersOfZero(m *api.Msg) {
	own := append(tableOfParts(m.Kind), "Kind", "From", "To", "Boot")
	v := reflect.ValueOf(m).Elem()
	for i := range v.NumField() {
		if !slices.Contains(own, v.Type().Field(i).Name) {
			v.Field(i).SetZero()
		}
	}
}

// some is a number from least to most, more often at its ends and where it takes a byte more.
func some(r *rand.Rand, least, most int64) int64 {
	switch r.Intn(5) {
	case 0:
		return least
	case 1:
		return most
	case 2:
		return max(least, min(most, 1<<r.Intn(63)-int64(r.Intn(2))))
	}
	if most-least < 0 || most-least == math.MaxInt64 {
		return int64(r.Uint64())
	}
	return least + r.Int63n(most-least+1)
}

func someInt(r *rand.Rand, most int) int { return int(some(r, 0, int64(most))) }

func someText(r *rand.Rand, most int) string {
	n := someInt(r, most)
	if r.Intn(3) > 0 {
		n = min(n, 5)
	}
	b := make([]byte, n)
	r.Read(b)
	return string(b)
}

func someName(r *rand.Rand) string {
	const signs = "abcdefghijklmnopqrstuvwxyz0123456789_."
	b := make([]byte, 1+r.Intn(24))
	for i := range b {
		b[i] = signs[r.Intn(len(signs))]
	}
	return string(b)
}

func someNames(r *rand.Rand, most int) []string {
	var l []string
	for range r.Intn(most + 1) {
		l = append(l, someName(r))
	}
	slices.Sort(l)
	return slices.Compact(l)
}

func someBallot(r *rand.Rand) api.Ballot {
	b := api.Ballot{Round: some(r, 0, 1<<30)}
	if b.Round > 0 {
		b.Mon = someInt(r, 4)
	}
	return b
}

func someStamp(r *rand.Rand) api.Stamp {
	if r.Intn(4) == 0 {
		return api.Stamp{}
	}
	return api.Stamp{Epoch: some(r, 1, 1<<30), Ver: some(r, 1, 1<<40)}
}

func someReq(r *rand.Rand) api.Req {
	op := api.Op{Kind: 1 + r.Intn(10), Name: someText(r, 64), Off: some(r, math.MinInt64, math.MaxInt64), Num: some(r, math.MinInt64, math.MaxInt64), Data: someText(r, 4096)}
	return api.Req{Client: someInt(r, 3), Inst: some(r, 1, 1<<30), Tid: some(r, 1, 1<<30), Op: op}
}

func someRes(r *rand.Rand) api.Res {
	return api.Res{Err: api.Errno(someInt(r, 999)), Num: some(r, math.MinInt64, math.MaxInt64), Inst: some(r, math.MinInt64, math.MaxInt64), Data: someText(r, 4096)}
}

func someEntry(r *rand.Rand) api.Entry {
	return api.Entry{At: api.Stamp{Epoch: some(r, 1, 1<<30), Ver: some(r, 1, 1<<40)}, Req: someReq(r), Res: someRes(r)}
}

func someLog(r *rand.Rand) []api.Entry {
	var l []api.Entry
	at := api.Stamp{Epoch: 1, Ver: 0}
	for range r.Intn(9) {
		e := someEntry(r)
		if r.Intn(2) == 0 {
			at.Ver += 1 + int64(r.Intn(3))
		} else {
			at = api.Stamp{Epoch: at.Epoch + 1 + r.Int63n(1000), Ver: 1 + r.Int63n(1000)}
		}
		e.At = at
		l = append(l, e)
	}
	return l
}

func someDups(r *rand.Rand) []api.Dup {
	var l []api.Dup
	for client := range 4 {
		if r.Intn(2) == 0 {
			l = append(l, api.Dup{Client: client, Inst: some(r, 1, 1<<30), Tid: some(r, 1, 1<<30), Res: someRes(r)})
		}
	}
	return l
}

func someObjects(r *rand.Rand) []api.Object {
	var l []api.Object
	for _, s := range someNames(r, 16) {
		o := api.Object{Name: s, Data: someText(r, 64), Locked: r.Intn(2) == 0}
		if o.Locked {
			o.Holder = api.Ban{Client: someInt(r, 3), Inst: some(r, 1, 1<<30)}
		}
		l = append(l, o)
	}
	return l
}

// chance is a fit message of a kind.
func chance(r *rand.Rand, kind int) api.Msg {
	ends := nodes()
	i := r.Intn(len(ends))
	j := (i + 1 + r.Intn(len(ends)-1)) % len(ends)
	m := api.Msg{Kind: kind, From: ends[i], To: ends[j]}
	if m.From.Kind != api.NdMon {
		m.Boot = some(r, 1, 1<<30)
	}
	m.Ballot, m.First, m.Num, m.Osd = someBallot(r), some(r, 0, 1<<40), some(r, 0, 1<<40), someInt(r, 3)
	for range r.Intn(17) {
		m.Values = append(m.Values, someText(r, 256))
	}
	m.Value = "v" + someText(r, 255)
	if m.Has = r.Intn(2) == 0; m.Has {
		m.At, m.Entry = someBallot(r), someEntry(r)
	} else if kind == api.MsPromise {
		m.Value = ""
	}
	m.Pg, m.Start = api.Pg{Pool: r.Intn(2), Num: r.Intn(8)}, some(r, 1, 1<<30)
	m.Info = api.Info{Osd: someInt(r, 7), Les: some(r, 0, 1<<30), Last: someStamp(r), Log: someLog(r)}
	m.Push = api.Push{Full: r.Intn(2) == 0, Les: some(r, 0, 1<<30), Last: someStamp(r), Log: someLog(r), Dups: someDups(r), Objects: someObjects(r), Gone: someNames(r, 16)}
	m.Req, m.Res = someReq(r), someRes(r)
	othersOfZero(&m)
	return m
}

// eachChange calls f with a message of which each leaf, in turn, was changed a little, and of which each list has one item more or less.
func eachChange(m api.Msg, f func(what string, m api.Msg)) {
	count := 0
	v := copied(m)
	leaves(reflect.ValueOf(&v).Elem(), func(reflect.Value) { count++ })
	for i := range count {
		for step := range 3 {
			n := copied(m)
			at := 0
			leaves(reflect.ValueOf(&n).Elem(), func(leaf reflect.Value) {
				if at == i {
					changeLeaf(leaf, step)
				}
				at++
			})
			f("leaf "+strconv.Itoa(i), n)
		}
	}
	eachListChange(m, f)
}

// changeLeaf makes something else of a leaf.
func changeLeaf(leaf reflect.Value, step int) {
	switch leaf.Kind() {
	case reflect.Int, reflect.Int64:
		leaf.SetInt(leaf.Int() + []int64{1, -1, 1 << 33}[step])
	case reflect.String:
		s := leaf.String()
		leaf.SetString([]string{s + "x", "x" + s, s + "\x00"}[step])
	case reflect.Bool:
		leaf.SetBool(!leaf.Bool())
	case reflect.Slice:
		leaf.Set(reflect.MakeSlice(leaf.Type(), 1+step, 1+step))
	}
}

// eachListChange calls f with a message of which a list has no last item, or its last one twice, or its first two the other way round.
func eachListChange(m api.Msg, f func(what string, m api.Msg)) {
	lists := func(m *api.Msg) []reflect.Value {
		var l []reflect.Value
		for _, at := range []any{&m.Values, &m.Info.Log, &m.Push.Log, &m.Push.Dups, &m.Push.Objects, &m.Push.Gone} {
			l = append(l, reflect.ValueOf(at).Elem())
		}
		return l
	}
	for i := range lists(&m) {
		n := copied(m)
		v := lists(&n)[i]
		if v.Len() == 0 {
			continue
		}
		last := v.Len() - 1
		v.SetLen(last)
		f("a list without its last", n)
		n = copied(m)
		v = lists(&n)[i]
		v.Set(reflect.Append(v, v.Index(last)))
		f("a list with its last twice", n)
		if last > 0 {
			n = copied(m)
			v = lists(&n)[i]
			reflect.Swapper(v.Interface())(0, 1)
			f("a list the other way round", n)
		}
	}
}
