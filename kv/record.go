package kv

import (
	"iter"

	"reef/api"
	"reef/code"
)

// Kinds of records.
const (
	checkpoint = 1
	commit     = 2
)

func number(n int) api.Field { return api.Field{Kind: api.FdNum, Num: int64(n)} }

func text(s string) api.Field { return api.Field{Kind: api.FdText, Text: s} }

// putPairs lays behind fields how many pairs there are, and these.
func putPairs(f []api.Field, l []api.Pair) []api.Field {
	f = append(f, number(len(l)))
	for _, p := range l {
		f = append(f, text(p.Key), text(p.Value))
	}
	return f
}

// checkpointOf is the record of all pairs.
func checkpointOf(l pairs) string {
	return string(code.Fields(putPairs([]api.Field{number(checkpoint)}, l)))
}

// commitOf is the record of a change.
func commitOf(c change) string {
	f := []api.Field{number(commit), number(len(c.gone))}
	for _, key := range c.gone {
		f = append(f, text(key))
	}
	return string(code.Fields(putPairs(f, c.sets)))
}

// reader takes fields from the front of a record, until one is none.
type reader struct {
	rest []byte
	bad  bool
}

// take takes a field of a kind; the zero field, if it is none.
func (r *reader) take(kind int) api.Field {
	l, n, e := code.Read(r.rest, []int{kind})
	if e != api.OK {
		r.bad = true
		return api.Field{}
	}
	r.rest = r.rest[n:]
	return l[0]
}

func (r *reader) number() int64 { return r.take(api.FdNum).Num }

func (r *reader) text() string { return r.take(api.FdText).Text }

// each does something as often as a number ahead of it says. The number may lie: it ends with the record's bytes.
func (r *reader) each(do func()) {
	for n := r.number(); n > 0 && !r.bad; n-- {
		do()
	}
}

// record is what a journal's record says.
type record struct {
	kind int64
	change
}

// recordOf is what a text says; the zero record, if it is of neither form.
func recordOf(s string) record {
	r := reader{rest: []byte(s)}
	x := record{kind: r.number()}
	if x.kind == commit {
		r.each(func() { x.gone = append(x.gone, r.text()) })
	}
	r.each(func() { x.sets = append(x.sets, api.Pair{Key: r.text(), Value: r.text()}) })
	if r.bad || len(r.rest) > 0 {
		return record{}
	}
	return x
}

// records ranges over what texts say.
func records(texts []string) iter.Seq[record] {
	return func(yield func(record) bool) {
		for _, s := range texts {
			if !yield(recordOf(s)) {
				return
			}
		}
	}
}

// replay is the pairs that a checkpoint and commits behind it come to, and whether the texts are these.
func replay(texts []string) (pairs, bool) {
	var l pairs
	done := 0
reading:
	for x := range records(texts) {
		switch {
		case done == 0 && x.kind == checkpoint && pairs(x.sets).rises():
			l = x.sets
		case done > 0 && x.kind == commit:
			l = l.with(x.change)
		default:
			break reading
		}
		done++
	}
	return l, done > 0 && done == len(texts)
}
