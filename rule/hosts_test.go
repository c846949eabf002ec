package rule

import (
	"math"
	"math/rand"
	"slices"
	"testing"

	"reef/api"
)

func wantHosts(t *testing.T, hosts []int, l ...int) {
	t.Helper()
	in := spare(hosts)
	got := Hosts(in)
	if !slices.Equal(got, l) {
		t.Fatalf("Hosts(%v): %v; want %v", hosts, got, l)
	}
	spoil(got, -9)
	same(t, in, hosts)
}

// wantItems asks for items of Id and Weight, by turns.
func wantItems(t *testing.T, k rack, l ...int64) {
	t.Helper()
	var want []api.Item
	for i := 0; i < len(l); i += 2 {
		want = append(want, api.Item{Id: int(l[i]), Weight: l[i+1]})
	}
	in := laid(k)
	got := Items(in.hosts, in.weights)
	if !slices.Equal(got, want) {
		t.Fatalf("Items(%v): %v; want %v", k, got, want)
	}
	spoil(got, api.Item{Id: -9, Weight: -9})
	sameRack(t, in, k)
}

// P12.1

func TestHosts(t *testing.T) {
	wantHosts(t, nil)
	wantHosts(t, []int{})
	wantHosts(t, []int{5}, 5)
	wantHosts(t, []int{0, 0, 1, 1, 2}, 0, 1, 2)
	wantHosts(t, []int{0, 1, 2, 3}, 0, 1, 2, 3)
	wantHosts(t, []int{4, 4, 4}, 4)
	wantHosts(t, mixed().hosts, -3, 0, 7, 12)
	wantHosts(t, []int{3, 2, 1, 2, 3}, 1, 2, 3)
	wantHosts(t, []int{-1, 0, -2, 0, -1}, -2, -1, 0)
	wantHosts(t, []int{math.MaxInt, 0, math.MinInt, 1 << 32, 0, math.MaxInt}, math.MinInt, 0, 1<<32, math.MaxInt)
}

// P12.2

func TestItems(t *testing.T) {
	wantItems(t, rack{})
	wantItems(t, rack{nil, []int64{1, 2}})
	wantItems(t, plain(), 0, 2*one, 1, 2*one, 2, one)
	wantItems(t, mixed(), -3, one+1, 0, 2*one, 7, api.MaxWeight, 12, 0)
	wantItems(t, rack{[]int{9, -9, 9}, []int64{1, 2, 4}}, -9, 2, 9, 5)
}

func TestItemsOfFewerWeightsAndMore(t *testing.T) {
	hosts := []int{2, 1, 2, 1}
	wantItems(t, rack{hosts, nil}, 1, 0, 2, 0)
	wantItems(t, rack{hosts, []int64{}}, 1, 0, 2, 0)
	wantItems(t, rack{hosts, []int64{8}}, 1, 0, 2, 8)
	wantItems(t, rack{hosts, []int64{8, 4, 2}}, 1, 4, 2, 10)
	wantItems(t, rack{hosts, []int64{8, 4, 2, 1}}, 1, 5, 2, 10)
	wantItems(t, rack{hosts, []int64{8, 4, 2, 1, 16, 32}}, 1, 5, 2, 10)
}

func TestItemsOfWeightsThatCountAsOthers(t *testing.T) {
	wantItems(t, rack{[]int{1}, []int64{0}}, 1, 0)
	wantItems(t, rack{[]int{1}, []int64{-1}}, 1, 0)
	wantItems(t, rack{[]int{1, 1}, []int64{-1, 5}}, 1, 5)
	wantItems(t, rack{[]int{1, 1, 1}, []int64{5, math.MinInt64, 6}}, 1, 11)
	wantItems(t, rack{[]int{1}, []int64{api.MaxWeight}}, 1, api.MaxWeight)
	wantItems(t, rack{[]int{1}, []int64{api.MaxWeight + 1}}, 1, api.MaxWeight)
	wantItems(t, rack{[]int{1, 2}, []int64{math.MaxInt64, api.MaxWeight - 1}}, 1, api.MaxWeight, 2, api.MaxWeight-1)
	wantItems(t, rack{[]int{1, 1}, []int64{api.MaxWeight - 1, 1}}, 1, api.MaxWeight)
	wantItems(t, rack{[]int{1, 1}, []int64{api.MaxWeight - 1, 2}}, 1, api.MaxWeight)
	wantItems(t, rack{[]int{1, 1, 1}, []int64{math.MaxInt64, math.MaxInt64, math.MaxInt64}}, 1, api.MaxWeight)
	wantItems(t, rack{[]int{1, 1, 1}, []int64{math.MaxInt64, math.MinInt64, -5}}, 1, api.MaxWeight)
}

func TestItemsByWords(t *testing.T) {
	r := rand.New(rand.NewSource(1))
	for range 10000 {
		k := chance(r)
		got := Items(k.hosts, k.weights)
		if !slices.Equal(got, k.itemsByWords()) {
			t.Fatalf("Items(%v): %v; want %v", k, got, k.itemsByWords())
		}
		ids := Hosts(k.hosts)
		if len(ids) != len(got) {
			t.Fatalf("Hosts(%v): %v; Items: %v", k.hosts, ids, got)
		}
		for i, item := range got {
			if item.Id != ids[i] {
				t.Fatalf("Hosts(%v): %v; Items: %v", k.hosts, ids, got)
			}
		}
	}
}

func TestItemsOfMany(t *testing.T) {
	k := rack{make([]int, 1<<18), make([]int64, 1<<18)}
	for i := range k.hosts {
		k.hosts[i], k.weights[i] = i/2, int64(i%3)
	}
	if got := Items(k.hosts, k.weights); len(got) != 1<<17 || got[0].Weight != 1 || got[1].Weight != 2 || got[2].Weight != 3 {
		t.Errorf("%d items", len(got))
	}
}
