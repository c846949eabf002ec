package store

import (
	"reef/api"
	"reef/extent"
	"reef/sector"
)

// data is the sectors of a device behind its head ones.
type data struct {
	device *sector.Device
	head   int
}

// total is how many there are.
func (r data) total() int { return r.device.Sectors() - r.head }

// long is a long value that is to be written, and where.
type long struct {
	at   []api.Extent
	text string
}

// write writes long values, one after another, and lays them down.
func (r data) write(l []long) api.Errno {
	for _, x := range l {
		if e := r.put(x); e != api.OK {
			return e
		}
	}
	if len(l) == 0 {
		return api.OK
	}
	return r.device.Flush()
}

// put writes a long value into the cache, with zeros at the end.
func (r data) put(x long) api.Errno {
	b := make([]byte, extent.Count(x.at)*api.SectorSize)
	copy(b, x.text)
	for _, k := range extent.Sectors(x.at) {
		if e := r.device.Write(r.head+k, b[:api.SectorSize]); e != api.OK {
			return e
		}
		b = b[api.SectorSize:]
	}
	return api.OK
}

// read is a long value's bytes.
func (r data) read(v value) (string, api.Errno) {
	var b []byte
	for _, k := range extent.Sectors(v.extents) {
		x, e := r.device.Read(r.head + k)
		if e != api.OK {
			return "", e
		}
		b = append(b, x...)
	}
	return string(b[:v.size]), api.OK
}
