package extent

import (
	"slices"
	"testing"

	"reef/api"
)

// packed is the extents of a set of sectors, one bit each.
func packed(set uint) []api.Extent {
	var l []api.Extent
	for at := 0; at < 20; at++ {
		n := 0
		for set>>(at+n)&1 == 1 {
			n++
		}
		if n > 0 {
			l = append(l, api.Extent{At: at, Num: n})
		}
		at += n
	}
	return l
}

// bits is the set of an extent's sectors.
func bits(x api.Extent) uint { return (1<<x.Num - 1) << x.At }

// P9.1

// Of all lists of up to three extents in and about a row those are fit that are a set's.
func TestFitByWords(t *testing.T) {
	for total := range 5 {
		fit := 0
		small := around(total)
		for _, l := range lists(small, 3) {
			var set uint
			in := true
			for _, x := range l {
				in = in && x.Num > 0 && x.At >= 0 && x.At+x.Num <= total
				if in {
					set |= bits(x)
				}
			}
			is := in && slices.Equal(l, packed(set))
			wantFit(t, total, l, is)
			if is {
				fit++
			}
		}
		if fit != 1<<total {
			t.Fatalf("of %d sectors %d sets are fit", total, fit)
		}
	}
}

// around is all extents in and about a row.
func around(total int) []api.Extent {
	var l []api.Extent
	for at := -1; at <= total+1; at++ {
		for num := -1; num <= total+1; num++ {
			l = append(l, api.Extent{At: at, Num: num})
		}
	}
	return l
}

// lists is all lists of up to n of these extents.
func lists(of []api.Extent, n int) [][]api.Extent {
	out := [][]api.Extent{nil}
	for from := 0; n > 0; n-- {
		end := len(out)
		for _, l := range out[from:end] {
			for _, x := range of {
				out = append(out, append(slices.Clone(l), x))
			}
		}
		from = end
	}
	return out
}

// P9.4, P9.5, by the chapter's words, on all sets of a small row and all lists of up to two extents.
func TestGiveAndClaimByWords(t *testing.T) {
	for total := range 6 {
		for _, l := range lists(around(total), 2) {
			given, twice, in := uint(0), false, true
			for _, x := range l {
				if x.Num < 1 || x.At < 0 || x.At+x.Num > total {
					in = false
					break
				}
				twice = twice || given&bits(x) != 0
				given |= bits(x)
			}
			for set := range uint(1 << total) {
				free := packed(set)
				got, e := Give(total, free, l)
				switch {
				case !in:
					want(t, got, free, e, api.ErrNumber)
				case twice || given&set != 0:
					want(t, got, free, e, api.ErrHave)
				default:
					want(t, got, packed(set|given), e, api.OK)
				}
				got, e = Claim(total, free, l)
				switch {
				case !in:
					want(t, got, free, e, api.ErrNumber)
				case twice || given&^set != 0:
					want(t, got, free, e, api.ErrNone)
				default:
					want(t, got, packed(set&^given), e, api.OK)
				}
			}
		}
	}
}

// takenByWords is what the chapter says is taken of a set.
func takenByWords(set uint, n int) uint {
	for _, x := range packed(set) {
		if x.Num >= n {
			return bits(api.Extent{At: x.At, Num: n})
		}
	}
	var taken uint
	for at := 0; n > 0; at++ {
		if set>>at&1 == 1 {
			taken |= 1 << at
			n--
		}
	}
	return taken
}

// P9.3, P9.9, P9.10, on all sets of a row of ten.
func TestTakeByWords(t *testing.T) {
	for set := range uint(1 << 10) {
		free := packed(set)
		for n := 0; n <= Count(free); n++ {
			a, b, e := Take(free, n)
			taken := takenByWords(set, n)
			want(t, a, packed(taken), e, api.OK)
			want(t, b, packed(set&^taken), e, api.OK)
			wantFit(t, 10, a, true)
			wantFit(t, 10, b, true)
			if Count(a) != n || Count(a)+Count(b) != Count(free) {
				t.Fatalf("Take(%v, %d): %v, %v", free, n, a, b)
			}
			back, e := Give(10, b, a)
			want(t, back, free, e, api.OK)
			rest, e := Claim(10, free, a)
			want(t, rest, b, e, api.OK)
			again, e := Give(10, rest, a)
			want(t, again, free, e, api.OK)
		}
		a, b, e := Take(free, Count(free)+1)
		want(t, a, nil, e, api.ErrSpace)
		want(t, b, free, e, api.ErrSpace)
	}
}

// P9.11, and P9.8 of what stands there upside down and twice.
func TestSectorsAndPackThereAndBack(t *testing.T) {
	for set := range uint(1 << 12) {
		free := packed(set)
		l := Sectors(free)
		var numbers []int
		for n := range 12 {
			if set>>n&1 == 1 {
				numbers = append(numbers, n)
			}
		}
		if !slices.Equal(l, numbers) {
			t.Fatalf("Sectors(%v) is %v", free, l)
		}
		wantFit(t, 12, Pack(l), true)
		want(t, Pack(l), free, api.OK, api.OK)
		slices.Reverse(l)
		want(t, Pack(append(l, numbers...)), free, api.OK, api.OK)
	}
}

// P9.9, P9.10: a greatest row that is taken and given by chance.
func TestTakenAndGivenByChance(t *testing.T) {
	free, held := All(row), [][]api.Extent{}
	seed := uint64(9)
	chance := func(n int) int {
		seed = seed*6364136223846793005 + 1442695040888963407
		return int(seed>>33) % n
	}
	mark := make([]bool, row)
	count := row
	for range 3000 {
		if n := chance(400); chance(9) < 5 && n <= count {
			a, left, e := Take(free, n)
			if e != api.OK || Count(a) != n || !Fit(row, a) || !Fit(row, left) {
				t.Fatalf("Take of %d: %v", n, e)
			}
			for _, s := range Sectors(a) {
				if mark[s] {
					t.Fatalf("sector %d is taken twice", s)
				}
				mark[s] = true
			}
			free, held, count = left, append(held, a), count-n
		} else if len(held) > 0 {
			i := chance(len(held))
			back, e := Give(row, free, held[i])
			if e != api.OK || !Fit(row, back) {
				t.Fatalf("Give: %v", e)
			}
			for _, s := range Sectors(held[i]) {
				mark[s] = false
			}
			count += Count(held[i])
			free, held = back, slices.Delete(held, i, i+1)
		}
		if Count(free) != count {
			t.Fatalf("%d are free; want %d", Count(free), count)
		}
	}
	for _, l := range held {
		back, e := Give(row, free, l)
		if e != api.OK {
			t.Fatal(e)
		}
		free = back
	}
	want(t, free, All(row), api.OK, api.OK)
}
