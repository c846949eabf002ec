package kv

import (
	"bytes"

	"reef/api"
	"reef/code"
	"reef/frame"
	"reef/journal"
	"reef/sector"
)

// A row has two heads and behind them two areas; generations take turns in both.
const (
	sides      = 2
	minSectors = 6
)

// Generations, and the numbers of records, go from the least to the greatest.
const (
	leastNumber    int64 = 1
	greatestNumber int64 = 1 << 62
)

// row is where a DB lies.
type row struct {
	device *sector.Device
	from   int
	count  int
}

// fault is why nothing can lie there.
func (r row) fault() api.Errno {
	if r.device.Dead() {
		return api.ErrDead
	}
	if r.from < 0 || r.count < minSectors || r.from > r.device.Sectors()-r.count {
		return api.ErrNumber
	}
	return api.OK
}

// side is which of the two heads and areas is a generation's.
func side(g int64) int { return int(g % sides) }

// openArea opens the journal of a generation's area.
func (r row) openArea(g, first int64) (*journal.Journal, []string, api.Errno) {
	n := (r.count - sides) / sides
	return journal.Open(r.device, r.from+sides+side(g)*n, n, first)
}

// clear lays zeros down in all of the row, and tells whether the power stayed.
func (r row) clear() bool {
	zeros := make([]byte, api.SectorSize)
	for k := range r.count {
		if r.device.Write(r.from+k, zeros) != api.OK {
			return false
		}
	}
	return r.device.Flush() == api.OK
}

// standing is the head of the greatest generation, and whether any stands.
func (r row) standing() (head, bool) {
	var best head
	for s := range sides {
		b, e := r.device.Read(r.from + s)
		if e != api.OK {
			continue
		}
		h, is := headOf(b)
		if is && side(h.generation) == s && h.generation > best.generation {
			best = h
		}
	}
	return best, best != head{}
}

// begin begins a generation with pairs, and gives its journal; first is the least number that may be used.
func (r row) begin(g int64, l pairs, first int64) (*journal.Journal, api.Errno) {
	if g > greatestNumber { // its head would not stand: what was told to be there would not be found
		return nil, api.ErrDead
	}
	j, _, e := r.openArea(g, first)
	if e != api.OK {
		return nil, api.ErrDead
	}
	j.Restart()
	h := head{generation: g, number: j.Next()}
	switch j.Append(checkpointOf(l)) {
	case api.OK:
	case api.ErrFull:
		return nil, api.ErrSpace
	default:
		return nil, api.ErrDead
	}
	// Only behind the checkpoint's flush: a head that stands must find it.
	if r.device.Write(r.from+side(g), h.bytes()) != api.OK || r.device.Flush() != api.OK {
		return nil, api.ErrDead
	}
	return j, api.OK
}

// headMark is what a head begins with.
const headMark = "KVHD"

// head says which generation an area is in, and its first record's number.
type head struct {
	generation int64
	number     int64
}

// word is a field of 32 bits.
func word(x uint32) api.Field { return api.Field{Kind: api.FdWord, Num: int64(x)} }

// bytes is a head's sector.
func (h head) bytes() []byte {
	var l []api.Field
	for _, x := range [...]int64{h.generation, h.number} {
		l = append(l, word(uint32(x)), word(uint32(x>>32)))
	}
	b := append([]byte(headMark), code.Fields(l)...)
	b = append(b, code.Fields([]api.Field{word(frame.Sum(b))})...)
	return append(b, make([]byte, api.SectorSize-len(b))...)
}

// headOf is the head that a sector has, and whether it is one, wherever it stands.
func headOf(b []byte) (head, bool) {
	l, _, e := code.Read(b[len(headMark):], []int{api.FdWord, api.FdWord, api.FdWord, api.FdWord})
	if e != api.OK {
		return head{}, false
	}
	h := head{generation: l[0].Num | l[1].Num<<32, number: l[2].Num | l[3].Num<<32}
	for _, x := range [...]int64{h.generation, h.number} {
		if x < leastNumber || x > greatestNumber {
			return head{}, false
		}
	}
	return h, bytes.Equal(b, h.bytes())
}
