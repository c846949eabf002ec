package rule

import (
	"math"
	"math/rand"
	"testing"

	"reef/api"
)

// P12.3. The places were worked out apart from this package, by the words of its chapter and of those of crush and hash.

func TestPlaceKnown(t *testing.T) {
	for _, c := range []struct {
		x            uint32
		size, domain int
		plain, mixed []int
	}{
		{0, 1, api.DmHost, []int{2}, []int{0}},
		{0, 2, api.DmHost, []int{2, 4}, []int{0, 5}},
		{0, 3, api.DmHost, []int{2, 4, 0}, []int{0, 5, 4}},
		{0, 9, api.DmHost, []int{2, 4, 0}, []int{0, 5, 4}},
		{0, 1, api.DmOsd, []int{2}, []int{0}},
		{0, 2, api.DmOsd, []int{2, 3}, []int{0, 3}},
		{0, 3, api.DmOsd, []int{2, 3, 4}, []int{0, 3, 5}},
		{0, 9, api.DmOsd, []int{2, 3, 4, 0, 1}, []int{0, 3, 5, 4}}, // the second node's weight is so little that no try meets it
		{1, 3, api.DmHost, []int{1, 3, 4}, []int{3, 4, 5}},
		{1, 9, api.DmOsd, []int{1, 3, 2, 4, 0}, []int{3, 4, 0, 5}},
		{2, 3, api.DmHost, []int{0, 4, 3}, []int{3, 5, 4}},
		{2, 9, api.DmOsd, []int{0, 4, 3, 2, 1}, []int{3, 5, 4, 0}},
		{12345, 2, api.DmHost, []int{1, 4}, []int{3, 5}},
		{12345, 2, api.DmOsd, []int{1, 0}, []int{3, 5}},
		{math.MaxUint32, 3, api.DmHost, []int{1, 4, 2}, []int{3, 4, 5}},
		{math.MaxUint32, 9, api.DmOsd, []int{1, 4, 0, 2, 3}, []int{3, 4, 5, 0}},
	} {
		wantPlace(t, plain(), c.x, c.size, c.domain, c.plain...)
		wantPlace(t, mixed(), c.x, c.size, c.domain, c.mixed...)
	}
}

func TestPlaceOfNone(t *testing.T) {
	for _, domain := range append(oddDomains(), api.DmHost) {
		for _, size := range oddNumbers() {
			wantPlace(t, rack{}, 1, size, domain)
			wantPlace(t, rack{nil, []int64{one, one}}, 1, size, domain)
			wantPlace(t, rack{[]int{0, 0, 1}, nil}, 1, size, domain)
			wantPlace(t, rack{[]int{0, 0, 1}, []int64{0, -1, math.MinInt64, one}}, 1, size, domain)
			if size < 1 {
				wantPlace(t, plain(), 1, size, domain)
			}
		}
	}
}

func TestPlaceOfOne(t *testing.T) {
	for x := range uint32(100) {
		for _, w := range []int64{1, one, api.MaxWeight, math.MaxInt64} {
			wantPlace(t, rack{[]int{5}, []int64{w}}, x, 1, api.DmHost, 0)
			wantPlace(t, rack{[]int{5}, []int64{w}}, x, 3, api.DmOsd, 0)
			wantPlace(t, rack{[]int{5, 4, 5, 6}, []int64{0, -1, w}}, x, 3, api.DmHost, 2)
		}
	}
}

// Two nodes of one host: the example of the chapter.
func TestPlaceOfOneHost(t *testing.T) {
	k := rack{[]int{3, 3}, []int64{one, one}}
	for x := range uint32(200) {
		first := k.tryByWords(x, 0)
		wantPlace(t, k, x, 2, api.DmHost, first)
		wantPlace(t, k, x, 2, api.DmOsd, first, 1-first)
	}
}

func TestPlaceMakesAllTriesAndNoMore(t *testing.T) {
	nodes, hosts := rack{[]int{0, 0}, []int64{api.MaxWeight, 40000}}, rack{[]int{0, 1}, []int64{40000, api.MaxWeight}}
	for _, x := range []uint32{39, 182} { // the last try is the one that meets the other node
		wantPlace(t, nodes, x, 2, api.DmOsd, 0, 1)
		wantPlace(t, nodes, x, 2, api.DmHost, 0)
	}
	for _, x := range []uint32{9, 13} { // none does
		wantPlace(t, nodes, x, 2, api.DmOsd, 0)
	}
	for _, domain := range []int{api.DmOsd, api.DmHost} {
		for _, x := range []uint32{77, 102} {
			wantPlace(t, hosts, x, 2, domain, 1, 0)
		}
		for _, x := range []uint32{21, 23} {
			wantPlace(t, hosts, x, 2, domain, 1)
		}
	}
}

func TestPlaceOfADomainThatIsNeither(t *testing.T) {
	for _, domain := range oddDomains() {
		wantPlace(t, plain(), 0, 2, domain, 2, 3)
		wantPlace(t, plain(), 12345, 2, domain, 1, 0)
	}
}

func TestPlaceOfWeightsThatCountAsOthers(t *testing.T) {
	hosts := []int{0, 0, 1, 1, 2}
	for x := range uint32(300) {
		most, _ := rack{hosts, []int64{api.MaxWeight, 0, api.MaxWeight, 9, api.MaxWeight - 1}}.placeByWords(x, 2, api.DmHost)
		wantPlace(t, rack{hosts, []int64{1 << 40, -7, math.MaxInt64, 9, api.MaxWeight - 1, 77}}, x, 2, api.DmHost, most...)
	}
}

// A host that is too heavy is no likelier to be chosen than one that has just the greatest weight.
func TestPlaceOfAHostThatIsTooHeavy(t *testing.T) {
	hosts := []int{0, 0, 0, 1}
	n := 0
	for x := range uint32(most) {
		if Place(hosts, []int64{api.MaxWeight, api.MaxWeight, api.MaxWeight, api.MaxWeight}, x, 1, api.DmOsd)[0] == 3 {
			n++
		}
	}
	if n < most*4/10 || n > most*6/10 {
		t.Errorf("the other host has %d of %d", n, most)
	}
}

func TestPlaceByWords(t *testing.T) {
	r := rand.New(rand.NewSource(2))
	for range 3000 {
		k, x, size, domain := chance(r), r.Uint32(), r.Intn(6)-1, r.Intn(4)
		l, _ := k.placeByWords(x, size, domain)
		wantPlace(t, k, x, size, domain, l...)
	}
}

// Hosts of the same number modulo 2^32 draw the same straw, and are two hosts all the same.
func TestPlaceOfHostsAlikeModulo(t *testing.T) {
	k := rack{[]int{5 + 1<<32, 5}, []int64{one, one}}
	for x := range uint32(50) {
		wantPlace(t, k, x, 2, api.DmHost, 1) // the lower one stands first among the hosts
		wantPlace(t, rack{k.hosts, []int64{one + 1, one}}, x, 2, api.DmHost, 0)
	}
}

func TestPlaceOfMany(t *testing.T) {
	k := rack{make([]int, 1<<13), make([]int64, 1<<13)}
	for i := range k.hosts {
		k.hosts[i], k.weights[i] = i, one
	}
	if l := Place(k.hosts, k.weights, 1, math.MaxInt, api.DmHost); len(l) < 60 || len(l) > 64 {
		t.Errorf("%d nodes of 64 tries", len(l))
	}
	for i := range k.hosts {
		k.hosts[i] = 0
	}
	if l := Place(k.hosts, k.weights, 1, math.MaxInt, api.DmOsd); len(l) < 60 || len(l) > 64 {
		t.Errorf("%d nodes of 64 tries", len(l))
	}
}
