package code

import (
	"math"
	"math/bits"

	"reef/api"
)

// more is laid over each byte of a packed number but its last one.
const more = 0x80

// How many bytes numbers take that have all of them, whatever they are.
const (
	lowSize  = 4
	highSize = 8
)

// packed is room for the bytes of a number of 64 bits, seven bits a byte, the lowest first.
type packed [10]byte

// low is the bytes of a number of 32 bits, the lowest first.
type low [lowSize]byte

// width is how many bytes a number is packed to: one at least.
func width(x uint64) int { return max(1, (bits.Len64(x)+6)/7) }

// pack packs a number; behind its width nothing is to be read.
func pack(x uint64) packed {
	var p packed
	for i := range p {
		p[i] = byte(x) | more
		x >>= 7
		if x == 0 {
			p[i] &^= more
			break
		}
	}
	return p
}

// fold lays numbers below 0 between those from 0 on, so that small ones of both sides take few bytes.
func fold(x int64) uint64 { return uint64(x)<<1 ^ uint64(x>>63) }

// unfold is fold backwards.
func unfold(x uint64) int64 { return int64(x>>1) ^ -int64(x&1) }

// flag is a truth's byte.
func flag(is bool) byte {
	if is {
		return 1
	}
	return 0
}

// putNumber lays a packed number behind b.
func putNumber(b []byte, x uint64) []byte {
	p := pack(x)
	return append(b, p[:width(x)]...)
}

// putLow lays a number of 32 bits behind b, the lowest byte first.
func putLow(b []byte, x int64) []byte {
	var l low
	for i := range l {
		l[i] = byte(x >> (8 * i))
	}
	return append(b, l[:]...)
}

// putField lays a fit field behind b.
func putField(b []byte, f api.Field) []byte {
	switch f.Kind {
	case api.FdNum:
		return putNumber(b, uint64(f.Num))
	case api.FdInt:
		return putNumber(b, fold(f.Num))
	case api.FdWord:
		return putLow(b, f.Num)
	case api.FdText:
		return append(putNumber(b, uint64(len(f.Text))), f.Text...)
	}
	return append(b, flag(f.Is))
}

// reader takes fields, and parts of keys, from the front of what is left. Behind an error what is left says nothing any more.
type reader struct{ rest []byte }

// take takes so many bytes.
func (r *reader) take(n int64) ([]byte, api.Errno) {
	if n > int64(len(r.rest)) {
		return nil, api.ErrShort
	}
	b := r.rest[:n]
	r.rest = r.rest[n:]
	return b, api.OK
}

// one takes a byte.
func (r *reader) one() (byte, api.Errno) {
	b, e := r.take(1)
	if e != api.OK {
		return 0, e
	}
	return b[0], api.OK
}

// number takes a packed number of 64 bits.
func (r *reader) number() (uint64, api.Errno) {
	var x uint64
	last := len(packed{}) - 1
	for i := range last {
		c, e := r.one()
		if e != api.OK {
			return 0, e
		}
		if c == 0 && i > 0 {
			return 0, api.ErrForm
		}
		x |= uint64(c&^more) << (7 * i)
		if c < more {
			return x, api.OK
		}
	}
	// One bit of the 64 is left for the last byte: were it not set, the byte would not be needed; with any other it would be too much.
	c, e := r.one()
	if e != api.OK {
		return 0, e
	}
	if c != 1 {
		return 0, api.ErrForm
	}
	return x | 1<<(7*last), api.OK
}

// count takes a packed number that is signed, from 0 on.
func (r *reader) count() (int64, api.Errno) {
	x, e := r.number()
	if e != api.OK {
		return 0, e
	}
	return within(x, math.MaxInt64)
}

// within is a number that may be most at most.
func within(x, most uint64) (int64, api.Errno) {
	if x > most {
		return 0, api.ErrForm
	}
	return int64(x), api.OK
}

// text takes a text behind its length.
func (r *reader) text() (string, api.Errno) {
	n, e := r.count()
	if e != api.OK {
		return "", e
	}
	b, e := r.take(n)
	return string(b), e
}

// word takes a number of 32 bits, the lowest byte first.
func (r *reader) word() (int64, api.Errno) {
	b, e := r.take(lowSize)
	if e != api.OK {
		return 0, e
	}
	var x int64
	for i, c := range b {
		x |= int64(c) << (8 * i)
	}
	return x, api.OK
}

// truth takes a flag's byte.
func (r *reader) truth() (bool, api.Errno) {
	c, e := r.one()
	if e != api.OK {
		return false, e
	}
	if c > 1 {
		return false, api.ErrForm
	}
	return c == 1, api.OK
}

// field takes a field of a kind, as putField lays it.
func (r *reader) field(kind int) (api.Field, api.Errno) {
	f := api.Field{Kind: kind}
	e := api.ErrKind
	switch kind {
	case api.FdNum:
		f.Num, e = r.count()
	case api.FdInt:
		var x uint64
		x, e = r.number()
		f.Num = unfold(x)
	case api.FdWord:
		f.Num, e = r.word()
	case api.FdText:
		f.Text, e = r.text()
	case api.FdFlag:
		f.Is, e = r.truth()
	}
	return f, e
}
