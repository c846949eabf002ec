package code

import (
	"math"

	"reef/api"
)

// In a text of a key a byte 0 stands only ahead of one of these: a 0 of the text's own is a greater one than its end, as the order of texts wants it.
const (
	ends = 1
	goes = 255
)

// sign is laid over the bits of a signed number, so that those below 0 come first.
const sign = 1 << 63

// high is a number's eight bytes, the highest first.
type high [highSize]byte

// putHigh lays a number behind b, the highest byte first.
func putHigh(b []byte, x uint64) []byte {
	var h high
	for i := range h {
		h[i] = byte(x >> (56 - 8*i))
	}
	return append(b, h[:]...)
}

// putText lays a text behind b, so that its end can be told from its bytes.
func putText(b []byte, s string) []byte {
	for i := range len(s) {
		b = append(b, s[i])
		if s[i] == 0 {
			b = append(b, goes)
		}
	}
	return append(b, 0, ends)
}

// putPart lays a fit field behind b as part of a key.
func putPart(b []byte, f api.Field) []byte {
	switch f.Kind {
	case api.FdNum, api.FdWord:
		return putHigh(b, uint64(f.Num))
	case api.FdInt:
		return putHigh(b, uint64(f.Num)^sign)
	case api.FdText:
		return putText(b, f.Text)
	}
	return append(b, flag(f.Is))
}

// long takes a number, the highest byte first.
func (r *reader) long() (uint64, api.Errno) {
	b, e := r.take(highSize)
	if e != api.OK {
		return 0, e
	}
	var x uint64
	for _, c := range b {
		x = x<<8 | uint64(c)
	}
	return x, api.OK
}

// longWithin takes a number, the highest byte first, that may be most at most.
func (r *reader) longWithin(most uint64) (int64, api.Errno) {
	x, e := r.long()
	if e != api.OK {
		return 0, e
	}
	return within(x, most)
}

// keyText takes a text up to its end.
func (r *reader) keyText() (string, api.Errno) {
	var s []byte
text:
	for {
		c, e := r.one()
		if e != api.OK {
			return "", e
		}
		if c != 0 {
			s = append(s, c)
			continue
		}
		c, e = r.one()
		if e != api.OK {
			return "", e
		}
		switch c {
		case ends:
			break text
		case goes:
			s = append(s, 0)
		default:
			return "", api.ErrForm
		}
	}
	return string(s), api.OK
}

// part takes a field of a kind, as putPart lays it.
func (r *reader) part(kind int) (api.Field, api.Errno) {
	f := api.Field{Kind: kind}
	e := api.ErrKind
	switch kind {
	case api.FdNum:
		f.Num, e = r.longWithin(math.MaxInt64)
	case api.FdInt:
		var x uint64
		x, e = r.long()
		f.Num = int64(x ^ sign)
	case api.FdWord:
		f.Num, e = r.longWithin(math.MaxUint32)
	case api.FdText:
		f.Text, e = r.keyText()
	case api.FdFlag:
		f.Is, e = r.truth()
	}
	return f, e
}
