package wire

import (
	"iter"

	"reef/api"
	"reef/code"
)

// place is where a field of a message stands: what stands there, and how another one is laid there in its stead.
type place struct {
	field api.Field
	lay   func(f api.Field)
}

// row is places in the order in which they are laid. The writer, the reader, and whoever compares messages go by it, so that none of them leaves out what the others have.
type row = iter.Seq[place]

// chain is rows one behind the other.
func chain(rows ...row) row {
	return func(yield func(p place) bool) {
		for _, r := range rows {
			for p := range r {
				if !yield(p) {
					return
				}
			}
		}
	}
}

// numberOf is the place of a number, as a field of a kind.
func numberOf[T ~int | ~int64](kind int, at *T) row {
	return func(yield func(p place) bool) {
		yield(place{api.Field{Kind: kind, Num: int64(*at)}, func(f api.Field) { *at = T(f.Num) }})
	}
}

// number is the place of a number from 0 on.
func number[T ~int | ~int64](at *T) row { return numberOf(api.FdNum, at) }

// signed is the place of any number.
func signed(at *int64) row { return numberOf(api.FdInt, at) }

// text is the place of a text.
func text(at *string) row {
	return func(yield func(p place) bool) {
		yield(place{api.Field{Kind: api.FdText, Text: *at}, func(f api.Field) { *at = f.Text }})
	}
}

// truth is the place of a truth.
func truth(at *bool) row {
	return func(yield func(p place) bool) {
		yield(place{api.Field{Kind: api.FdFlag, Is: *at}, func(f api.Field) { *at = f.Is }})
	}
}

// list is the place of how many a list holds, and those of each of them. Where the first is laid anew, the list grows one by one as it is gone over, so that a number that lies costs no memory.
func list[T any](l *[]T, each func(at *T) row) row {
	return func(yield func(p place) bool) {
		n := len(*l)
		for p := range number(&n) {
			if !yield(p) {
				return
			}
		}
		for i := range n {
			if i == len(*l) {
				var next T
				*l = append(*l, next)
			}
			for p := range each(&(*l)[i]) {
				if !yield(p) {
					return
				}
			}
		}
	}
}

func addrRow(a *api.Addr) row { return chain(number(&a.Kind), number(&a.Id)) }

func ballotRow(b *api.Ballot) row { return chain(number(&b.Round), number(&b.Mon)) }

func stampRow(s *api.Stamp) row { return chain(number(&s.Epoch), number(&s.Ver)) }

func pgRow(p *api.Pg) row { return chain(number(&p.Pool), number(&p.Num)) }

func opRow(o *api.Op) row {
	return chain(number(&o.Kind), text(&o.Name), signed(&o.Off), signed(&o.Num), text(&o.Data))
}

func reqRow(r *api.Req) row {
	return chain(number(&r.Client), number(&r.Inst), number(&r.Tid), opRow(&r.Op))
}

func resRow(r *api.Res) row {
	return chain(number(&r.Err), signed(&r.Num), signed(&r.Inst), text(&r.Data))
}

func entryRow(e *api.Entry) row { return chain(stampRow(&e.At), reqRow(&e.Req), resRow(&e.Res)) }

func dupRow(d *api.Dup) row {
	return chain(number(&d.Client), number(&d.Inst), number(&d.Tid), resRow(&d.Res))
}

func objectRow(o *api.Object) row {
	return chain(text(&o.Name), text(&o.Data), truth(&o.Locked), number(&o.Holder.Client), number(&o.Holder.Inst))
}

func infoRow(i *api.Info) row {
	return chain(number(&i.Osd), number(&i.Les), stampRow(&i.Last), list(&i.Log, entryRow))
}

func pushRow(p *api.Push) row {
	return chain(
		truth(&p.Full), number(&p.Les), stampRow(&p.Last),
		list(&p.Log, entryRow), list(&p.Dups, dupRow), list(&p.Objects, objectRow), list(&p.Gone, text),
	)
}

// fields are what stands at a row's places.
func fields(r row) []api.Field {
	var l []api.Field
	for p := range r {
		l = append(l, p.field)
	}
	return l
}

// nothing tells whether all that stands at a row's places is zero.
func nothing(r row) bool {
	for p := range r {
		if (p.field != api.Field{Kind: p.field.Kind}) {
			return false
		}
	}
	return true
}

// read lays the fields of some bytes at a row's places. It throws an error, if the bytes are not just those fields.
func read(b []byte, r row) {
	for p := range r {
		l, n, e := code.Read(b, []int{p.field.Kind})
		if e != api.OK {
			panic(e)
		}
		p.lay(l[0])
		b = b[n:]
	}
	if len(b) > 0 {
		panic(api.ErrForm)
	}
}
