package sector

import (
	"math"
	"slices"

	"reef/api"
)

// block is a sector's bytes: an array, so that what lies in the cache, what is laid down and what is answered never share any.
type block [api.SectorSize]byte

// blockOf is the block of the bytes that come first; there are as many as it needs.
func blockOf(b []byte) block {
	var x block
	copy(x[:], b)
	return x
}

// A pick has so many bits; one that is all ones lays everything down.
const (
	pickBits   = 64
	everything = math.MaxUint64
)

// cache is what was written and is not laid down: the sectors, in the order in which each came there first, and the bytes of each at the same place.
type cache struct {
	order  []int
	blocks []block
}

// find is a sector's bytes in the cache, and whether it is there.
func (c *cache) find(k int) (block, bool) {
	if j := slices.Index(c.order, k); j >= 0 {
		return c.blocks[j], true
	}
	return block{}, false
}

// put lays a sector's bytes into the cache, in the place of its earlier ones.
func (c *cache) put(k int, x block) {
	if j := slices.Index(c.order, k); j >= 0 {
		c.blocks[j] = x
		return
	}
	c.order = append(c.order, k)
	c.blocks = append(c.blocks, x)
}

// settle lays down what the pick says, and forgets the rest.
func (c *cache) settle(laid []block, pick uint64) {
	for j, k := range c.order {
		if pick>>(j%pickBits)&1 == 1 {
			laid[k] = c.blocks[j]
		}
	}
	*c = cache{}
}
