package rule

import (
	"math"
	"math/rand"
	"testing"

	"reef/api"
)

// P12.4

func TestValid(t *testing.T) {
	k := plain()
	wantValid(t, k, nil, 3, api.DmHost, true)
	wantValid(t, k, []int{}, 1, api.DmOsd, true)
	wantValid(t, k, []int{4, 0, 2}, 3, api.DmHost, true)
	wantValid(t, k, []int{1}, 3, api.DmHost, true)
	wantValid(t, k, []int{4, 3, 2, 1, 0}, 5, api.DmOsd, true)
	wantValid(t, k, []int{4, 3, 2, 1, 0}, math.MaxInt, api.DmOsd, true)
}

func TestValidOfMoreThanSize(t *testing.T) {
	k := plain()
	wantValid(t, k, []int{0, 2}, 1, api.DmHost, false)
	wantValid(t, k, []int{0, 2, 4}, 2, api.DmHost, false)
	wantValid(t, k, []int{0, 1, 2, 3, 4}, 4, api.DmOsd, false)
	for _, size := range oddNumbers() {
		for _, domain := range append(oddDomains(), api.DmHost) {
			wantValid(t, k, nil, size, domain, true) // none is none too many
			wantValid(t, k, []int{0}, size, domain, size >= 1)
			wantValid(t, k, []int{0, 2}, size, domain, size >= 2)
		}
	}
}

func TestValidOfNoNodes(t *testing.T) {
	for _, node := range []int{5, 6, -1, -2, math.MinInt, math.MaxInt, 1 << 32} {
		wantValid(t, plain(), []int{node}, 3, api.DmOsd, false)
		wantValid(t, plain(), []int{0, node}, 3, api.DmHost, false)
		wantValid(t, plain(), []int{node, 0}, 3, api.DmHost, false)
		wantValid(t, rack{nil, plain().weights}, []int{node}, 3, api.DmHost, false)
	}
	wantValid(t, rack{nil, plain().weights}, []int{0}, 3, api.DmHost, false)
	wantValid(t, rack{plain().hosts, []int64{1, 1, 1, 1, 1, 1, 1}}, []int{5}, 3, api.DmHost, false)
}

func TestValidOfNodesWithoutWeight(t *testing.T) {
	for node, ok := range []bool{true, true, false, true, true, true, false, false} {
		wantValid(t, mixed(), []int{node}, 3, api.DmHost, ok)
		wantValid(t, mixed(), []int{node}, 3, api.DmOsd, ok)
	}
	wantValid(t, mixed(), []int{0, 7}, 3, api.DmHost, false)
	wantValid(t, plain().with(2, 0), []int{0, 2}, 3, api.DmHost, false)
	wantValid(t, plain().with(2, -1), []int{2, 0}, 3, api.DmHost, false)
	wantValid(t, plain().with(2, 1), []int{2, 0}, 3, api.DmHost, true)
	wantValid(t, rack{plain().hosts, nil}, []int{0}, 3, api.DmHost, false)
	wantValid(t, rack{plain().hosts, nil}, nil, 3, api.DmHost, true)
}

func TestValidOfOneDomainTwice(t *testing.T) {
	k := plain()
	for _, domain := range append(oddDomains(), api.DmHost) {
		wantValid(t, k, []int{0, 0}, 3, domain, false)
		wantValid(t, k, []int{4, 0, 4}, 3, domain, false)
		wantValid(t, k, []int{4, 1, 0}, 3, domain, domain != api.DmHost)
		wantValid(t, k, []int{0, 4, 1}, 3, domain, domain != api.DmHost)
		wantValid(t, k, []int{2, 3}, 2, domain, domain != api.DmHost)
	}
	wantValid(t, rack{[]int{1, 0}, []int64{1, 1}}, []int{0, 1}, 2, api.DmHost, true) // each one's number is the other one's host
}

func TestValidByWords(t *testing.T) {
	r := rand.New(rand.NewSource(3))
	held := 0
	for range 50000 {
		k, size, domain := chance(r), r.Intn(6)-1, r.Intn(4)
		l := make([]int, r.Intn(5))
		for i := range l {
			l[i] = r.Intn(len(k.hosts)+2) - 1
		}
		ok := k.validByWords(l, size, domain)
		if ok && len(l) > 1 {
			held++
		}
		wantValid(t, k, l, size, domain, ok)
	}
	if held < 300 {
		t.Errorf("only %d held", held)
	}
}

func TestValidOfMany(t *testing.T) {
	k := rack{make([]int, 1<<18), make([]int64, 1<<18)}
	l := make([]int, 1<<18)
	for i := range l {
		k.hosts[i], k.weights[i], l[i] = -i, 1, 1<<18-1-i
	}
	wantValid(t, k, l, 1<<18, api.DmHost, true)
	l[0] = l[1<<18-1]
	wantValid(t, k, l, 1<<18, api.DmHost, false)
}

// P12.5

func TestMost(t *testing.T) {
	k := rack{[]int{0, 0, 1, 1}, []int64{1, 0, 0, 0}} // the example of the chapter
	wantMost(t, k, 3, api.DmHost, 1)
	wantMost(t, k, 3, api.DmOsd, 1)
	wantMost(t, plain(), 9, api.DmHost, 3)
	wantMost(t, plain(), 9, api.DmOsd, 5)
	wantMost(t, mixed(), 9, api.DmHost, 3)
	wantMost(t, mixed(), 9, api.DmOsd, 5)
	wantMost(t, rack{plain().hosts, []int64{1}}, 9, api.DmOsd, 1)
	wantMost(t, rack{plain().hosts, []int64{0, 0, 0, 1, 1, 1, 1}}, 9, api.DmHost, 2)
	wantMost(t, rack{[]int{4, -4, 4}, []int64{1, math.MaxInt64, 1}}, 9, api.DmHost, 2)
	wantMost(t, rack{[]int{1, 0, 1}, []int64{1, 0, 1}}, 9, api.DmHost, 1)
}

func TestMostOfSizes(t *testing.T) {
	for _, size := range oddNumbers() {
		wantMost(t, plain(), size, api.DmHost, max(0, min(size, 3)))
		for _, domain := range oddDomains() {
			wantMost(t, plain(), size, domain, max(0, min(size, 5)))
			wantMost(t, rack{}, size, domain, 0)
			wantMost(t, rack{plain().hosts, nil}, size, domain, 0)
			wantMost(t, rack{plain().hosts, []int64{-1, 0, math.MinInt64}}, size, domain, 0)
			wantMost(t, rack{nil, plain().weights}, size, domain, 0)
		}
	}
}

func TestMostByWords(t *testing.T) {
	r := rand.New(rand.NewSource(4))
	for range 20000 {
		k, size, domain := chance(r), r.Intn(11)-1, r.Intn(4)
		wantMost(t, k, size, domain, k.mostByWords(size, domain))
	}
}
