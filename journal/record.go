package journal

import (
	"iter"

	"reef/api"
	"reef/frame"
	"reef/sector"
)

// A record's sectors begin with a mark and the record's number; behind these the first one has how many bytes the record has, and the sum.
const (
	headMark   = 1
	tailMark   = 2
	numberAt   = 1
	numberSize = 8
	countSize  = 4
	sumSize    = 4
	tailHead   = numberAt + numberSize
	headHead   = tailHead + countSize + sumSize
	headRoom   = api.SectorSize - headHead
	tailRoom   = api.SectorSize - tailHead
)

// maxNumber is the greatest number that a record can have.
const maxNumber int64 = 1 << 62

// stretch is sectors in a row, from one on to below another one.
type stretch struct{ from, end int }

// piece is what a sector has of a record: the zero piece, if it has a mark that is none, or a number that is none.
type piece struct {
	mark   byte
	number int64
	rest   []byte
}

// putLow lays the lowest bytes of a number behind b, the lowest first.
func putLow(b []byte, x uint64, size int) []byte {
	for range size {
		b = append(b, byte(x))
		x >>= 8
	}
	return b
}

// low is the number that bytes make, the lowest first.
func low(b []byte) uint64 {
	var x uint64
	for i, c := range b {
		x |= uint64(c) << (8 * i)
	}
	return x
}

// pieceOf is what a sector's bytes have of a record.
func pieceOf(b []byte) piece {
	mark, number := b[0], int64(low(b[numberAt:tailHead]))
	if mark != headMark && mark != tailMark || number < 1 || number > maxNumber {
		return piece{}
	}
	return piece{mark, number, b[tailHead:]}
}

// pieces ranges over the sectors of a row, by what each has of a record.
func pieces(d *sector.Device, row stretch) iter.Seq[piece] {
	return func(yield func(piece) bool) {
		for k := row.from; k < row.end; k++ {
			b, e := d.Read(k)
			if e != api.OK || !yield(pieceOf(b)) {
				return
			}
		}
	}
}

// greatest is the greatest number of a row; 0, if it has none.
func greatest(row iter.Seq[piece]) int64 {
	var most int64
	for p := range row {
		most = max(most, p.number)
	}
	return most
}

// record is one that is gathered from its pieces.
type record struct {
	number int64
	count  int
	sum    uint32
	text   []byte
}

// begun is the record that a first piece begins.
func begun(p piece) record {
	count, sum := p.rest[:countSize], p.rest[countSize:countSize+sumSize]
	r := record{number: p.number, count: int(low(count)), sum: uint32(low(sum))}
	r.gather(p.rest[countSize+sumSize:])
	return r
}

// lacks tells whether there are sectors to come.
func (r *record) lacks() bool { return len(r.text) < r.count }

// gather takes the bytes of one sector more, but for the zeros at the end.
func (r *record) gather(b []byte) {
	r.text = append(r.text, b[:min(len(b), r.count-len(r.text))]...)
}

// sumOf is the sum of a record: of its number, of how many bytes it has, and of these.
func sumOf(number int64, text []byte) uint32 {
	b := putLow(putLow(nil, uint64(number), numberSize), uint64(len(text)), countSize)
	return frame.Sum(append(b, text...))
}

// stand is the records that stand, from a row's beginning on, and how many sectors they take.
func stand(row iter.Seq[piece], first int64) ([]string, int) {
	var l []string
	var r record
	taken, last := 0, first-1
reading:
	for p := range row {
		switch {
		case r.lacks():
			if p.mark != tailMark || p.number != r.number {
				break reading
			}
			r.gather(p.rest)
		case p.mark != headMark || p.number <= last:
			break reading
		default:
			r = begun(p)
		}
		if r.lacks() {
			continue
		}
		if sumOf(r.number, r.text) != r.sum {
			break reading
		}
		l = append(l, string(r.text))
		taken += Need(r.count)
		last = r.number
	}
	return l, taken
}

// laid ranges over a record's sectors.
func laid(number int64, rec string) iter.Seq[[]byte] {
	return func(yield func([]byte) bool) {
		b := putLow([]byte{headMark}, uint64(number), numberSize)
		b = putLow(b, uint64(len(rec)), countSize)
		b = putLow(b, uint64(sumOf(number, []byte(rec))), sumSize)
		for {
			n := min(len(rec), api.SectorSize-len(b))
			b = append(b, rec[:n]...)
			rec = rec[n:]
			b = append(b, make([]byte, api.SectorSize-len(b))...)
			if !yield(b) || rec == "" {
				return
			}
			b = putLow([]byte{tailMark}, uint64(number), numberSize)
		}
	}
}
