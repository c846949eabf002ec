package crush

import (
	"math"
	"math/rand"
	"slices"
	"testing"

	"reef/api"
)

// P11.6

func TestOnlyWhatMustOfMoreWeight(t *testing.T) {
	r := rand.New(rand.NewSource(8))
	won := 0
	for range 30000 {
		l, x, try := chance(r), r.Uint32(), r.Intn(8)
		if len(l) == 0 {
			continue
		}
		at := r.Intn(len(l))
		more := []int64{1, 1 + r.Int63n(1000), one, api.MaxWeight, math.MaxInt64}[r.Intn(5)]
		if more <= l[at].Weight {
			continue
		}
		i, is := Choose(l, x, try)
		j, too := Choose(with(l, at, more), x, try)
		if !too || j != at && (!is || j != i) {
			t.Fatalf("Choose(%v, %d, %d): %d, %v; with a weight of %d at %d: %d, %v", l, x, try, i, is, more, at, j, too)
		}
		if is && j != i {
			won++
		}
	}
	if won < 1000 {
		t.Errorf("only %d went to the one with more weight", won)
	}
}

func TestOnlyWhatMustOfLessWeight(t *testing.T) {
	r := rand.New(rand.NewSource(9))
	lost := 0
	for range 30000 {
		l, x, try := chance(r), r.Uint32(), r.Intn(8)
		i, is := Choose(l, x, try)
		if !is {
			continue
		}
		at := r.Intn(len(l))
		less := []int64{0, -1, math.MinInt64, 1, l[at].Weight / 2}[r.Intn(5)]
		if less >= l[at].Weight {
			continue
		}
		if j, too := Choose(with(l, at, less), x, try); at == i {
			if !too || j != i {
				lost++
			}
		} else if j != i || !too {
			t.Fatalf("Choose(%v, %d, %d): %d; with a weight of %d at %d: %d, %v", l, x, try, i, less, at, j, too)
		}
	}
	if lost < 1000 {
		t.Errorf("only %d went from the one with less weight", lost)
	}
}

func TestOnlyWhatMustOfOneTakenOut(t *testing.T) {
	r := rand.New(rand.NewSource(10))
	for range 30000 {
		l, x, try := chance(r), r.Uint32(), r.Intn(8)
		i, is := Choose(l, x, try)
		if !is {
			continue
		}
		at := r.Intn(len(l))
		if at == i {
			continue
		}
		j, too := Choose(without(l, at), x, try)
		if j >= at {
			j++
		}
		if !too || j != i {
			t.Fatalf("Choose(%v, %d, %d): %d; without the one at %d: %d, %v", l, x, try, i, at, j, too)
		}
	}
}

// P11.7

func TestOrderHasNoSay(t *testing.T) {
	r := rand.New(rand.NewSource(11))
	asked := 0
	for range 30000 {
		l, x, try := chance(r), r.Uint32(), r.Intn(8)
		if alike(l, x, try) {
			continue
		}
		asked++
		order := r.Perm(len(l))
		turned := make([]api.Item, len(l))
		for i, k := range order {
			turned[i] = l[k]
		}
		i, is := Choose(l, x, try)
		j, too := Choose(turned, x, try)
		if is != too || is && order[j] != i {
			t.Fatalf("Choose(%v, %d, %d): %d, %v; of %v: %d, %v", l, x, try, i, is, turned, j, too)
		}
		places := Rank(turned, x, try)
		for n := range places {
			places[n] = order[places[n]]
		}
		if !slices.Equal(places, Rank(l, x, try)) {
			t.Fatalf("Rank(%v, %d, %d) is not that of %v", l, x, try, turned)
		}
	}
	if asked < 10000 {
		t.Errorf("only %d lists", asked)
	}
}

// What is answered hangs on nothing but what is asked.
func TestAskedAtTheSameTime(t *testing.T) {
	l := mixed()
	want := Count(l, 0, 1000)
	got := make(chan []int)
	for range 8 {
		go func() { got <- Count(l, 0, 1000) }()
	}
	for range 8 {
		if often := <-got; !slices.Equal(often, want) {
			t.Errorf("%v; want %v", often, want)
		}
	}
	if !slices.Equal(l, mixed()) {
		t.Errorf("the list is %v", l)
	}
}
