package store

import (
	"slices"

	"reef/api"
	"reef/code"
	"reef/extent"
)

// value is what stands at a name: a short value itself, or how many bytes a long one has and where it lies.
type value struct {
	text    string
	size    int // of a long one; 0: it is short
	extents []api.Extent
}

func (v value) isLong() bool { return v.size > 0 }

// need is how many sectors so many bytes take, 1 or more.
func need(size int) int { return (size-1)/api.SectorSize + 1 } // a sum might come round

func number(n int) api.Field { return api.Field{Kind: api.FdNum, Num: int64(n)} }

// bytes is a value as a key has it.
func (v value) bytes() string {
	l := []api.Field{{Kind: api.FdFlag, Is: v.isLong()}}
	if !v.isLong() {
		return string(code.Fields(append(l, api.Field{Kind: api.FdText, Text: v.text})))
	}
	l = append(l, number(v.size), number(len(v.extents)))
	for _, x := range v.extents {
		l = append(l, number(x.At), number(x.Num))
	}
	return string(code.Fields(l))
}

// valueOf is what a key's value says, and whether it is of the form. Which sectors there are, and whose, it can't tell.
func valueOf(s string) (value, bool) {
	b := []byte(s)
	l, n, e := code.Read(b, []int{api.FdFlag})
	switch {
	case e != api.OK:
		return value{}, false
	case l[0].Is:
		return longOf(b[n:])
	}
	return shortOf(b[n:])
}

func shortOf(b []byte) (value, bool) {
	l, e := code.Whole(b, []int{api.FdText})
	if e != api.OK || len(l[0].Text) > api.MaxShort {
		return value{}, false
	}
	return value{text: l[0].Text}, true
}

func longOf(b []byte) (value, bool) {
	l, n, e := code.Read(b, []int{api.FdNum, api.FdNum})
	if e != api.OK {
		return value{}, false
	}
	v := value{size: int(l[0].Num)}
	count, rest := l[1].Num, b[n:]
	if v.size <= api.MaxShort || count > int64(len(rest)) { // the count may lie: each extent takes bytes
		return value{}, false
	}
	places, e := code.Whole(rest, slices.Repeat([]int{api.FdNum}, 2*int(count)))
	if e != api.OK {
		return value{}, false
	}
	for x := range slices.Chunk(places, 2) {
		v.extents = append(v.extents, api.Extent{At: int(x[0].Num), Num: int(x[1].Num)})
	}
	if extent.Count(v.extents) != need(v.size) {
		return value{}, false
	}
	return v, true
}
