package rule

import (
	"math/rand"
	"slices"
	"testing"

	"reef/api"
)

// P12.8

func TestPlaceIsValid(t *testing.T) {
	r := rand.New(rand.NewSource(7))
	for range 5000 {
		k, x, size, domain := chance(r), r.Uint32(), r.Intn(9)-1, r.Intn(4)
		l := Place(k.hosts, k.weights, x, size, domain)
		wantValid(t, k, l, size, domain, true)
		if n := Most(k.hosts, k.weights, size, domain); len(l) > n {
			t.Fatalf("Place(%v, %d, %d, %d): %v; Most: %d", k, x, size, domain, l, n)
		}
		greater := Place(k.hosts, k.weights, x, size+1+r.Intn(3), domain)
		if len(greater) < len(l) || !slices.Equal(greater[:len(l)], l) {
			t.Fatalf("Place(%v, %d, %d, %d): %v; of more: %v", k, x, size, domain, l, greater)
		}
	}
}

// P12.9. A host's weight falls with its node's: so none of that node's host is to be met, for a try that met another node of it may go elsewhere.
func TestOnlyWhatMust(t *testing.T) {
	r := rand.New(rand.NewSource(8))
	stayed := 0
	for range 20000 {
		k, x, size, domain := chance(r), r.Uint32(), 1+r.Intn(3), r.Intn(4)
		if len(k.weights) == 0 || len(k.hosts) == 0 {
			continue
		}
		gone := r.Intn(min(len(k.weights), len(k.hosts)))
		l, met := k.placeByWords(x, size, domain)
		if slices.ContainsFunc(met, func(node int) bool { return k.hosts[node] == k.hosts[gone] }) {
			continue
		}
		if k.weightByWords(gone) > 0 && len(l) > 0 {
			stayed++
		}
		wantPlace(t, k.with(gone, 0), x, size, domain, l...)
	}
	if stayed < 500 {
		t.Errorf("only %d were to stay", stayed)
	}
}

// With each node on a host of its own, it is enough that the node is not met.
func TestOnlyWhatMustOfHostsOfOneNode(t *testing.T) {
	weights := []int64{one, 2 * one, one / 2, one, 1000, one, one}
	k := rack{[]int{3, 1, 4, 2, -5, 9, 0}, weights}
	for x := range uint32(500) {
		l, met := k.placeByWords(x, 3, api.DmHost)
		for gone := range weights {
			if !slices.Contains(met, gone) {
				wantPlace(t, k.with(gone, 0), x, 3, api.DmHost, l...)
			}
		}
	}
}

// P12.10

func TestSumOfLoad(t *testing.T) {
	r := rand.New(rand.NewSource(9))
	for range 300 {
		k, from, n, size, domain := chance(r), r.Uint32(), r.Intn(40)-1, r.Intn(6)-1, r.Intn(4)
		all, sum := 0, 0
		for i := range n {
			all += len(Place(k.hosts, k.weights, from+uint32(i), size, domain))
		}
		for _, often := range Load(k.hosts, k.weights, from, n, size, domain) {
			sum += often
		}
		if sum != all {
			t.Fatalf("Load(%v, %d, %d, %d, %d): %d in all; want %d", k, from, n, size, domain, sum, all)
		}
		wantMoves(t, k, k.weights, from, n, size, domain, 0)
		wantMoves(t, k, append(slices.Clone(k.weights), 0, 0), from, n, size, domain, 0)
	}
}

// What is answered hangs on nothing but what is asked.
func TestAskedAtTheSameTime(t *testing.T) {
	k := mixed()
	want := k.loadByWords(0, 500, 3, api.DmHost)
	got := make(chan []int)
	for range 8 {
		go func() { got <- Load(k.hosts, k.weights, 0, 500, 3, api.DmHost) }()
	}
	for range 8 {
		if often := <-got; !slices.Equal(often, want) {
			t.Errorf("%v; want %v", often, want)
		}
	}
}

// Where P12.9's words would have a Place stay whose tries met another node of that host, those of P12.3 hold.
func TestWhereAHostLosesByItsNode(t *testing.T) {
	k := rack{[]int{0, 1, 0, 0, 3, 3}, []int64{2 * one, one, 1, 2 * one, 2 * one, one}}
	wantPlace(t, k, 0xc8a5f721, 2, api.DmHost, 0, 4)
	wantPlace(t, k.with(3, 0), 0xc8a5f721, 2, api.DmHost, 5, 0)
}
