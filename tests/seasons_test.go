package tests

import (
	"fmt"
	"math"
	"math/big"
	"slices"
	"testing"

	"loop.example/g00067/impl"
)

// meanByWords is 0 of no sales.
func meanByWords(list []int) *big.Rat {
	sum := new(big.Rat)
	for _, sold := range list {
		sum.Add(sum, big.NewRat(int64(sold), 1))
	}
	if len(list) == 0 {
		return sum
	}
	return sum.Quo(sum, big.NewRat(int64(len(list)), 1))
}

func ratioByWords(x *big.Rat) impl.Ratio {
	return impl.Ratio{N: int(x.Num().Int64()), D: int(x.Denom().Int64())}
}

// seasonsByWords puts each of the sales to its season first.
func seasonsByWords(list []int, n int) ([]impl.Ratio, int) {
	if len(list) > 4096 {
		return nil, impl.ErrLong
	}
	if !salesByWords(list) || n < 1 || n > 60 {
		return nil, impl.ErrBad
	}
	if len(list) < n {
		return nil, impl.ErrShort
	}
	all := meanByWords(list)
	if all.Sign() == 0 {
		return nil, impl.ErrZero
	}
	seasons := make([][]int, n)
	for place, sold := range list {
		seasons[place%n] = append(seasons[place%n], sold)
	}
	var ratios []impl.Ratio
	for _, season := range seasons {
		ratios = append(ratios, ratioByWords(new(big.Rat).Quo(meanByWords(season), all)))
	}
	return ratios, impl.OK
}

func wantSeasons(t *testing.T, list []int, n int, want []impl.Ratio, wantCode int) {
	t.Helper()
	got, code := impl.Seasons(list, n)
	if code != wantCode || !slices.Equal(got, want) {
		t.Errorf("Seasons(%.200s, %d) = %.200s, %d; want %.200s, %d", fmt.Sprint(list), n, fmt.Sprint(got), code, fmt.Sprint(want), wantCode)
	}
}

func wantNoSeasons(t *testing.T, list []int, n, code int) {
	t.Helper()
	wantSeasons(t, list, n, nil, code)
}

func wantSeasonsByWords(t *testing.T, list []int, n int) {
	t.Helper()
	want, code := seasonsByWords(list, n)
	wantSeasons(t, list, n, want, code)
}

func ratiosOf(numbers ...[2]int) []impl.Ratio {
	var ratios []impl.Ratio
	for _, number := range numbers {
		ratios = append(ratios, impl.Ratio{N: number[0], D: number[1]})
	}
	return ratios
}

func sameRatios(n int) []impl.Ratio { return slices.Repeat(ratiosOf([2]int{1, 1}), n) }

func TestP17SeasonsByHand(t *testing.T) {
	for _, c := range []struct {
		list []int
		n    int
		want []impl.Ratio
	}{
		{[]int{2, 4, 4, 2, 3}, 2, sameRatios(2)},
		{[]int{1, 0, 3, 0}, 2, ratiosOf([2]int{2, 1}, [2]int{0, 1})},
		{[]int{1, 2, 3}, 3, ratiosOf([2]int{1, 2}, [2]int{1, 1}, [2]int{3, 2})},
		{[]int{1, 2, 3}, 2, sameRatios(2)},
		{[]int{1, 2, 3}, 1, sameRatios(1)},
		{[]int{5}, 1, sameRatios(1)},
		{[]int{6, 4}, 2, ratiosOf([2]int{6, 5}, [2]int{4, 5})},
		{[]int{0, 7}, 2, ratiosOf([2]int{0, 1}, [2]int{2, 1})},
		{[]int{7, 0}, 2, ratiosOf([2]int{2, 1}, [2]int{0, 1})},
		{[]int{0, 0, 1}, 2, ratiosOf([2]int{3, 2}, [2]int{0, 1})}, // a last season that is not whole
		{[]int{1, 1, 1, 2}, 3, ratiosOf([2]int{6, 5}, [2]int{4, 5}, [2]int{4, 5})},
		{[]int{1, 2, 3, 4, 5, 6, 7}, 3, ratiosOf([2]int{1, 1}, [2]int{7, 8}, [2]int{9, 8})},
		{[]int{1, 2, 3, 4, 5, 6, 7, 8}, 3, ratiosOf([2]int{8, 9}, [2]int{10, 9}, [2]int{1, 1})},
		{[]int{0, 0, 0, 9}, 4, ratiosOf([2]int{0, 1}, [2]int{0, 1}, [2]int{0, 1}, [2]int{4, 1})},
		{[]int{100000, 100000}, 2, sameRatios(2)},
		{[]int{100000, 99999}, 2, ratiosOf([2]int{200000, 199999}, [2]int{199998, 199999})},
		{[]int{100000, 0, 1}, 3, ratiosOf([2]int{300000, 100001}, [2]int{0, 1}, [2]int{3, 100001})},
		{[]int{100000, 1}, 1, sameRatios(1)},
	} {
		wantSeasons(t, c.list, c.n, c.want, impl.OK)
		if words, code := seasonsByWords(c.list, c.n); code != impl.OK || !slices.Equal(words, c.want) {
			t.Errorf("%v: by the words %v, %d", c, words, code)
		}
	}
}

func TestSeasonsAtTheEdges(t *testing.T) {
	for _, sold := range []int{0, 1, impl.MaxMany - 1, impl.MaxMany} {
		for place := range 5 {
			list := []int{5, 9, 2, 0, 4}
			list[place] = sold
			for n := 1; n <= 5; n++ {
				if _, code := seasonsByWords(list, n); code != impl.OK {
					t.Fatal("this should be right", list, n)
				}
				wantSeasonsByWords(t, list, n)
			}
		}
	}
	for _, n := range []int{1, 2, 59, impl.MaxPhase} {
		for _, count := range []int{n, n + 1, 2*n - 1, 2 * n, 2*n + 1, impl.MaxList} {
			wantSeasons(t, alike(3, count), n, sameRatios(n), impl.OK)
			wantSeasonsByWords(t, placesTo(count)[1:], n)
			wantSeasonsByWords(t, append([]int{1}, placesTo(count)...), n)
		}
		wantNoSeasons(t, alike(3, n-1), n, impl.ErrShort)
	}
}

func TestSeasonsWhatIsWrong(t *testing.T) {
	for _, list := range [][]int{nil, {0}, {5}, {5, 9, 2}, alike(0, 61), alike(impl.MaxMany, impl.MaxList)} {
		for _, n := range []int{math.MinInt, -impl.MaxPhase, -1, 0, impl.MaxPhase + 1, impl.MaxList, math.MaxInt} {
			wantNoSeasons(t, list, n, impl.ErrBad)
		}
	}
	for _, sold := range []int{math.MinInt, -impl.MaxMany, -1, impl.MaxMany + 1, math.MaxInt} {
		for place := range 3 {
			list := []int{5, 9, 2}
			list[place] = sold
			for _, n := range []int{0, 1, 2, 3, 4, impl.MaxPhase, impl.MaxPhase + 1} {
				wantNoSeasons(t, list, n, impl.ErrBad)
			}
		}
		wantNoSeasons(t, append(alike(1, impl.MaxList-1), sold), 7, impl.ErrBad)
	}
	for _, n := range []int{1, 2, 3, impl.MaxPhase} {
		wantNoSeasons(t, nil, n, impl.ErrShort)
		wantNoSeasons(t, []int{}, n, impl.ErrShort)
		wantNoSeasons(t, alike(0, n), n, impl.ErrZero)
		wantNoSeasons(t, alike(0, n+1), n, impl.ErrZero)
		wantNoSeasons(t, alike(0, impl.MaxList), n, impl.ErrZero)
	}
}

// Each fault here stands together with all that are named behind it.
func TestSeasonsWhichFaultComesFirst(t *testing.T) {
	for _, sold := range []int{math.MinInt, -1, 0, 7, impl.MaxMany + 1, math.MaxInt} {
		for _, n := range []int{math.MinInt, -1, 0, 1, 7, impl.MaxPhase, impl.MaxPhase + 1, 2*impl.MaxList + 1, math.MaxInt} {
			wantNoSeasons(t, alike(sold, impl.MaxList+1), n, impl.ErrLong)
			wantNoSeasons(t, alike(sold, 2*impl.MaxList), n, impl.ErrLong)
		}
	}
	wantNoSeasons(t, []int{0, -1}, 3, impl.ErrBad)
	wantNoSeasons(t, []int{0, impl.MaxMany + 1}, impl.MaxPhase, impl.ErrBad)
	wantNoSeasons(t, []int{0, 0}, impl.MaxPhase+1, impl.ErrBad)
	wantNoSeasons(t, []int{0, 0}, 0, impl.ErrBad)
	wantNoSeasons(t, []int{0, 0}, 3, impl.ErrShort)
	wantNoSeasons(t, []int{1, 2}, 3, impl.ErrShort)
	wantNoSeasons(t, []int{0, 0}, 2, impl.ErrZero)
	wantSeasons(t, []int{0, 1}, 2, ratiosOf([2]int{0, 1}, [2]int{2, 1}), impl.OK)
}

func TestP17SeasonsOfSalesThatAreAllTheSame(t *testing.T) {
	for _, sold := range []int{1, 2, 7, 60, impl.MaxMany} {
		for n := 1; n <= impl.MaxPhase; n++ {
			for _, count := range []int{n, n + 1, n + 7, 3*n - 1, 3 * n, impl.MaxList} {
				wantSeasons(t, alike(sold, count), n, sameRatios(n), impl.OK)
			}
		}
	}
}

func TestP17EveryListOfFewSales(t *testing.T) {
	seen := map[int]int{}
	for count := range 6 {
		eachCounts(count, 0, 4, func(list []int) {
			for n := range 7 {
				_, code := seasonsByWords(list, n)
				wantSeasonsByWords(t, list, n)
				seen[code]++
			}
		})
	}
	if seen[impl.OK] < 10000 || seen[impl.ErrBad] < 1000 || seen[impl.ErrShort] < 1000 || seen[impl.ErrZero] < 10 {
		t.Error("too few of one kind", seen)
	}
}

// seasonPlaces is how many of count places a season has.
func seasonPlaces(count, n, season int) int { return (count - season + n - 1) / n }

func TestP17SeasonsComeToTheMean(t *testing.T) {
	r := fixed()
	noughts, parts := 0, 0
	for round := range 2000 {
		n := 1 + r.IntN(impl.MaxPhase)
		list := someSales(r, n+r.IntN(200))
		if round%100 == 0 {
			list = someSales(r, impl.MaxList)
		}
		list[r.IntN(len(list))] = 1 + r.IntN(9)
		wantSeasonsByWords(t, list, n)
		ratios, code := impl.Seasons(list, n)
		if code != impl.OK || len(ratios) != n {
			t.Fatalf("Seasons(%v, %d) = %v, %d", list, n, ratios, code)
		}
		sum := new(big.Rat)
		for season, ratio := range ratios {
			if ratio.N < 0 || ratio.D < 1 || new(big.Int).GCD(nil, nil, big.NewInt(int64(ratio.N)), big.NewInt(int64(ratio.D))).Int64() != 1 {
				t.Fatalf("Seasons(%v, %d): %v is not in lowest terms", list, n, ratio)
			}
			if ratio.N == 0 {
				noughts++
			}
			sum.Add(sum, new(big.Rat).Mul(big.NewRat(int64(ratio.N), int64(ratio.D)), big.NewRat(int64(seasonPlaces(len(list), n, season)), 1)))
		}
		if sum.Cmp(big.NewRat(int64(len(list)), 1)) != 0 {
			t.Fatalf("Seasons(%v, %d) = %v: with its places each, these come to %v", list, n, ratios, sum)
		}
		if len(list)%n != 0 {
			parts++
		}
	}
	if noughts < 500 || parts < 500 {
		t.Error("too few of one kind", noughts, parts)
	}
}

func TestP17SeasonsDoNotHangOnTheScale(t *testing.T) {
	r := fixed()
	for range 300 {
		n := 1 + r.IntN(impl.MaxPhase)
		var list []int
		for range n + r.IntN(100) {
			list = append(list, r.IntN(50))
		}
		want, wantCode := impl.Seasons(list, n)
		for _, times := range []int{2, 3, 10, 2000} {
			var more []int
			for _, sold := range list {
				more = append(more, times*sold)
			}
			wantSeasons(t, more, n, want, wantCode)
		}
	}
}

func TestP17WholeSeasonsInAnyOrder(t *testing.T) {
	r := fixed()
	for range 300 {
		n := 1 + r.IntN(impl.MaxPhase)
		list := someSales(r, n*(1+r.IntN(8)))
		want, wantCode := impl.Seasons(list, n)
		var mixed []int
		for _, year := range r.Perm(len(list) / n) {
			mixed = append(mixed, list[year*n:(year+1)*n]...)
		}
		wantSeasons(t, mixed, n, want, wantCode)
		if wantCode == impl.OK {
			turned := append(slices.Clone(list[1:]), list[0]) // the seasons turn with the sales
			wantSeasons(t, turned, n, append(slices.Clone(want[1:]), want[0]), impl.OK)
		}
	}
}
