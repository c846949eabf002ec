package kv

import (
	"slices"
	"sort"
	"strings"

	"reef/api"
)

// pairs is keys with their values, rising by key. A list is never changed: what changes it makes a new one, so that whoever fails on the way still has the old one.
type pairs []api.Pair

// find is where a key stands, or would stand, and whether it is there.
func (l pairs) find(key string) (int, bool) {
	k := sort.Search(len(l), func(i int) bool { return l[i].Key >= key })
	return k, k < len(l) && l[k].Key == key
}

// between is the pairs from a key on, below another one ("": to the end).
func (l pairs) between(from, to string) []api.Pair {
	end := len(l)
	if to != "" {
		end, _ = l.find(to)
	}
	k, _ := l[:end].find(from)
	return slices.Clone(l[k:end])
}

// rises tells whether the keys rise, none twice.
func (l pairs) rises() bool {
	for i := range l {
		if i > 0 && l[i].Key <= l[i-1].Key {
			return false
		}
	}
	return true
}

// change is keys that go, and pairs that are set then, in order.
type change struct {
	gone []string
	sets []api.Pair
}

// edit is what a change comes to for one key.
type edit struct {
	api.Pair
	gone bool
}

// edits is what a change comes to, rising by key.
func (c change) edits() []edit {
	l := make([]edit, 0, len(c.gone)+len(c.sets))
	for _, p := range slices.Backward(c.sets) { // of one key the last one holds: it is laid ahead of all others
		l = append(l, edit{Pair: p})
	}
	for _, key := range c.gone {
		l = append(l, edit{Pair: api.Pair{Key: key}, gone: true})
	}
	slices.SortStableFunc(l, func(x, y edit) int { return strings.Compare(x.Key, y.Key) })
	return slices.CompactFunc(l, func(x, y edit) bool { return x.Key == y.Key })
}

// with is the pairs behind a change.
func (l pairs) with(c change) pairs {
	var out pairs
	for _, x := range c.edits() {
		k, is := l.find(x.Key)
		out = append(out, l[:k]...)
		if is {
			k++
		}
		if !x.gone {
			out = append(out, x.Pair)
		}
		l = l[k:]
	}
	return append(out, l...)
}
