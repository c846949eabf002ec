package maps

import "reef/api"

// numFields is how many numbers a change's text has.
const numFields = 8

// fields are a change's numbers, in the order in which they are written.
func fields(c api.Inc) []api.Field {
	p := c.Pool
	row := [numFields]int64{
		int64(c.Kind), int64(c.Osd), int64(c.Client), c.Num,
		int64(p.Size), int64(p.Min), int64(p.PGs), int64(p.Domain),
	}
	var l []api.Field
	for _, n := range row {
		l = append(l, api.Field{Kind: api.FdNum, Num: n})
	}
	return l
}

// incOf is the change whose numbers these are.
func incOf(l []api.Field) api.Inc {
	num := func(i int) int { return int(l[i].Num) }
	return api.Inc{
		Kind: num(0), Osd: num(1), Client: num(2), Num: l[3].Num,
		Pool: api.Pool{Size: num(4), Min: num(5), PGs: num(6), Domain: num(7)},
	}
}
