package rule

import (
	"math"
	"math/rand"
	"slices"
	"sort"
	"testing"

	"reef/api"
	"reef/crush"
)

const (
	one  = 1 << 16
	most = 2000
)

// rack is hosts and weights of their nodes.
type rack struct {
	hosts   []int
	weights []int64
}

// plain is five nodes on three hosts, with a weight of one each.
func plain() rack {
	return rack{[]int{0, 0, 1, 1, 2}, []int64{one, one, one, one, one}}
}

// mixed is hosts in no order, one of them negative, one too heavy, one without weight; the eighth node's weight is missing.
func mixed() rack {
	return rack{[]int{7, -3, 7, 7, 0, -3, 12, 0}, []int64{one, 1, -5, 1 << 40, 2 * one, one, 0}}
}

// with is the same hosts with another weight of one node.
func (k rack) with(node int, weight int64) rack {
	weights := slices.Clone(k.weights)
	weights[node] = weight
	return rack{k.hosts, weights}
}

// chance is a few chance nodes; weights are as many, or fewer, or more.
func chance(r *rand.Rand) rack {
	some := []int64{math.MinInt64, -1, 0, 0, 1, 2, one / 2, one, one, 2 * one, api.MaxWeight - 1, api.MaxWeight, api.MaxWeight + 1, math.MaxInt64}
	k := rack{make([]int, r.Intn(9)), make([]int64, r.Intn(12))}
	wide := 1 + r.Intn(6)
	for i := range k.hosts {
		k.hosts[i] = (r.Intn(wide) - 2) * 1000
	}
	for i := range k.weights {
		k.weights[i] = some[r.Intn(len(some))]
	}
	return k
}

// oddNumbers is numbers near a bound.
func oddNumbers() []int {
	return []int{math.MinInt, math.MinInt + 1, -1 << 32, -1 << 31, -2, -1, 0, 1, 2, 3, 4, 63, 64, 65, 1<<31 - 1, 1 << 31, 1 << 32, math.MaxInt - 1, math.MaxInt}
}

// oddDomains is domains that count as DmOsd.
func oddDomains() []int {
	return []int{math.MinInt, -1, 0, api.DmOsd, 3, 1 + 1<<32, 2 + 1<<32, math.MaxInt}
}

// weightByWords is a node's weight as it counts.
func (k rack) weightByWords(node int) int64 {
	switch {
	case node >= len(k.weights) || k.weights[node] < 0:
		return 0
	case k.weights[node] > 1<<20:
		return 1 << 20
	}
	return k.weights[node]
}

// domainByWords is a node's failure domain.
func (k rack) domainByWords(node, domain int) int {
	if domain == 2 {
		return k.hosts[node]
	}
	return node
}

// itemsByWords sums up each host's nodes, host by host.
func (k rack) itemsByWords() []api.Item {
	sums := map[int]int64{}
	for node, host := range k.hosts {
		sums[host] += k.weightByWords(node)
	}
	var l []api.Item
	for host, sum := range sums {
		l = append(l, api.Item{Id: host, Weight: min(sum, 1<<20)})
	}
	sort.Slice(l, func(i, j int) bool { return l[i].Id < l[j].Id })
	return l
}

// tryByWords is the node that a try gives, or -1.
func (k rack) tryByWords(x uint32, r int) int {
	hosts := k.itemsByWords()
	i, is := crush.Choose(hosts, x, r)
	if !is {
		return -1
	}
	var nodes []api.Item
	for node, host := range k.hosts {
		if host == hosts[i].Id {
			nodes = append(nodes, api.Item{Id: node, Weight: k.weightByWords(node)})
		}
	}
	j, is := crush.Choose(nodes, x, r+64)
	if !is {
		return -1
	}
	return nodes[j].Id
}

// placeByWords makes the tries until there are enough; it tells too which nodes they met.
func (k rack) placeByWords(x uint32, size, domain int) (found, met []int) {
	taken := map[int]bool{}
	for r := 0; r < 64 && len(found) < size; r++ {
		node := k.tryByWords(x, r)
		if node < 0 {
			continue
		}
		met = append(met, node)
		if d := k.domainByWords(node, domain); !taken[d] {
			taken[d] = true
			found = append(found, node)
		}
	}
	return found, met
}

// validByWords holds each number against all ahead of it.
func (k rack) validByWords(l []int, size, domain int) bool {
	if len(l) > 0 && size < 1 || len(l) > max(size, 0) {
		return false
	}
	for i, node := range l {
		if node < 0 || node >= len(k.hosts) || k.weightByWords(node) == 0 {
			return false
		}
		for _, other := range l[:i] {
			if k.domainByWords(node, domain) == k.domainByWords(other, domain) {
				return false
			}
		}
	}
	return true
}

// mostByWords counts the domains that have a weight.
func (k rack) mostByWords(size, domain int) int {
	if size < 1 {
		return 0
	}
	have := map[int]bool{}
	for node := range k.hosts {
		if k.weightByWords(node) > 0 {
			have[k.domainByWords(node, domain)] = true
		}
	}
	return min(len(have), size)
}

// spare is a list with spare room, in which something stands.
func spare[T int | int64](l []T) []T {
	return append(slices.Clone(l), 1, 2, 3)[:len(l)]
}

// same asks for a list that is as it was, its spare room too.
func same[T int | int64](t *testing.T, l, was []T) {
	t.Helper()
	if got := l[:len(l)+3]; !slices.Equal(got, spare(was)[:len(was)+3]) {
		t.Fatalf("what went in is %v; want %v", got, was)
	}
}

// laid is a rack whose lists have spare room.
func laid(k rack) rack { return rack{spare(k.hosts), spare(k.weights)} }

// sameRack asks for a rack that is as it was.
func sameRack(t *testing.T, k, was rack) {
	t.Helper()
	same(t, k.hosts, was.hosts)
	same(t, k.weights, was.weights)
}

// spoil writes over an answer and its spare room.
func spoil[T any](l []T, with T) {
	for i := range l[:cap(l)] {
		l[:cap(l)][i] = with
	}
}

func wantPlace(t *testing.T, k rack, x uint32, size, domain int, l ...int) {
	t.Helper()
	in := laid(k)
	got := Place(in.hosts, in.weights, x, size, domain)
	if !slices.Equal(got, l) {
		t.Fatalf("Place(%v, %d, %d, %d): %v; want %v", k, x, size, domain, got, l)
	}
	spoil(got, -9)
	sameRack(t, in, k)
}

func wantValid(t *testing.T, k rack, l []int, size, domain int, ok bool) {
	t.Helper()
	in, places := laid(k), spare(l)
	if got := Valid(in.hosts, in.weights, places, size, domain); got != ok {
		t.Fatalf("Valid(%v, %v, %d, %d): %v", k, l, size, domain, got)
	}
	same(t, places, l)
	sameRack(t, in, k)
}

func wantMost(t *testing.T, k rack, size, domain, n int) {
	t.Helper()
	in := laid(k)
	if got := Most(in.hosts, in.weights, size, domain); got != n {
		t.Fatalf("Most(%v, %d, %d): %d; want %d", k, size, domain, got, n)
	}
	sameRack(t, in, k)
}

func wantLoad(t *testing.T, k rack, from uint32, n, size, domain int, often ...int) {
	t.Helper()
	in := laid(k)
	got := Load(in.hosts, in.weights, from, n, size, domain)
	if !slices.Equal(got, often) {
		t.Fatalf("Load(%v, %d, %d, %d, %d): %v; want %v", k, from, n, size, domain, got, often)
	}
	spoil(got, -9)
	sameRack(t, in, k)
}

func wantMoves(t *testing.T, k rack, other []int64, from uint32, n, size, domain, moves int) {
	t.Helper()
	in, too := laid(k), spare(other)
	if got := Moves(in.hosts, in.weights, too, from, n, size, domain); got != moves {
		t.Fatalf("Moves(%v, %v, %d, %d, %d, %d): %d; want %d", k, other, from, n, size, domain, got, moves)
	}
	same(t, too, other)
	sameRack(t, in, k)
}
