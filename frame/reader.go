package frame

import "reef/api"

// A frame is laid so: the mark, the kind, the length, the body, the sum.
const (
	mark       = 167
	kindPlace  = 1
	countPlace = 2
	countSize  = 3
	headSize   = countPlace + countSize
	sumSize    = 4
)

// putLow lays the lowest bytes of a number behind b, the lowest first.
func putLow(b []byte, x uint32, size int) []byte {
	for range size {
		b = append(b, byte(x))
		x >>= 8
	}
	return b
}

// stretch is bytes in a row.
type stretch []byte

// has tells whether there are so many bytes.
func (s stretch) has(n int) bool { return n <= len(s) }

// low is the number that so many bytes from a place on make, the lowest first; all of them are there.
func (s stretch) low(place, size int) uint32 {
	var x uint32
	for i, c := range s[place : place+size] {
		x |= uint32(c) << (8 * i)
	}
	return x
}

// reader takes frames from the front of the bytes that are left.
type reader struct {
	stretch
	taken int
}

// size is how many bytes the frame at the front has, if it is there whole.
func (r *reader) size() (int, api.Errno) {
	if r.has(1) && r.stretch[0] != mark {
		return 0, api.ErrForm
	}
	if !r.has(headSize) {
		return 0, api.ErrShort
	}
	n := int(r.low(countPlace, countSize))
	if n > api.MaxBody {
		return 0, api.ErrForm
	}
	n += headSize + sumSize
	if !r.has(n) {
		return 0, api.ErrShort
	}
	return n, api.OK
}

// frame takes a frame: its kind, and its body as it lies in the reader's bytes. Beside an error nothing is taken.
func (r *reader) frame() (byte, stretch, api.Errno) {
	n, e := r.size()
	if e != api.OK {
		return 0, nil, e
	}
	end := n - sumSize
	if Sum(r.stretch[kindPlace:end]) != r.low(end, sumSize) {
		return 0, nil, api.ErrSum
	}
	kind, body := r.stretch[kindPlace], r.stretch[headSize:end]
	r.stretch = r.stretch[n:]
	r.taken += n
	return kind, body, api.OK
}
