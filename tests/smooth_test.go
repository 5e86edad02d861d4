package tests

import (
	"fmt"
	"math"
	"math/big"
	"math/rand/v2"
	"slices"
	"testing"

	"loop.example/g00067/impl"
)

func salesByWords(list []int) bool {
	return !slices.ContainsFunc(list, func(sold int) bool { return sold < 0 || sold > 100000 })
}

// lessOrSame is the greatest whole number that is not above x.
func lessOrSame(x *big.Rat) int {
	return int(new(big.Int).Div(x.Num(), x.Denom()).Int64()) // the denominator is above 0, so that this is rounded down below 0, too
}

// smoothByWords reckons with fractions of any size.
func smoothByWords(list []int, num, den int) ([]int, int) {
	if len(list) > 4096 {
		return nil, impl.ErrLong
	}
	if !salesByWords(list) || den < 1 || den > 1000 || num < 0 || num > den {
		return nil, impl.ErrBad
	}
	var levels []int
	for place, sold := range list {
		if place == 0 {
			levels = append(levels, 64*sold)
			continue
		}
		ahead := levels[place-1]
		part := new(big.Rat).Mul(big.NewRat(int64(64*sold-ahead), 1), big.NewRat(int64(num), int64(den)))
		levels = append(levels, ahead+lessOrSame(part))
	}
	return levels, impl.OK
}

func wantSmooth(t *testing.T, list []int, num, den int, want []int, wantCode int) {
	t.Helper()
	got, code := impl.Smooth(list, num, den)
	if code != wantCode || !slices.Equal(got, want) {
		t.Errorf("Smooth(%.200s, %d, %d) = %.200s, %d; want %.200s, %d", fmt.Sprint(list), num, den, fmt.Sprint(got), code, fmt.Sprint(want), wantCode)
	}
}

func wantSmoothByWords(t *testing.T, list []int, num, den int) {
	t.Helper()
	want, code := smoothByWords(list, num, den)
	wantSmooth(t, list, num, den, want, code)
}

// someSales are often few numbers that come again and again, so that levels rise, fall and stay.
func someSales(r *rand.Rand, count int) []int {
	greatest := []int{1, 3, 20, 1000, impl.MaxMany}[r.IntN(5)]
	var list []int
	for range count {
		list = append(list, r.IntN(greatest+1))
	}
	return list
}

func someParts(r *rand.Rand) (num, den int) {
	den = []int{1, 2, 3, 10, 999, 1000, 1 + r.IntN(1000)}[r.IntN(7)]
	return []int{0, 1, den - 1, den, r.IntN(den + 1)}[r.IntN(5)], den
}

func scaled(list []int) []int {
	var all []int
	for _, sold := range list {
		all = append(all, 64*sold)
	}
	return all
}

func TestForecastsBounds(t *testing.T) {
	got := []int{impl.Scale, impl.MaxPhase, impl.MaxTable, impl.MaxOdds, impl.MaxAhead, impl.MaxMany}
	if !slices.Equal(got, []int{64, 60, 13, 30, 5, 100000}) {
		t.Error("constants", got)
	}
}

func TestP17LevelsByHand(t *testing.T) {
	for _, c := range []struct {
		list     []int
		num, den int
		want     []int
	}{
		{[]int{10, 20, 0}, 1, 4, []int{640, 800, 600}},
		{[]int{1, 0}, 1, 3, []int{64, 42}}, // 64 less 21 and a third: down, not towards 0
		{[]int{0, 1}, 1, 3, []int{0, 21}},
		{[]int{1, 0, 0, 0}, 1, 3, []int{64, 42, 28, 18}},
		{[]int{0, 1, 1, 1}, 1, 3, []int{0, 21, 35, 44}},
		{[]int{1, 0}, 2, 3, []int{64, 21}},
		{[]int{0, 1}, 2, 3, []int{0, 42}},
		{[]int{2, 1, 2}, 1, 2, []int{128, 96, 112}},
		{[]int{1, 0, 0, 0, 0, 0, 0, 0, 0, 0}, 1, 2, []int{64, 32, 16, 8, 4, 2, 1, 0, 0, 0}}, // what falls comes down to 0
		{[]int{0, 1, 1, 1, 1, 1, 1, 1, 1, 1}, 1, 2, []int{0, 32, 48, 56, 60, 62, 63, 63, 63, 63}},
		{[]int{1, 0}, 1, 1000, []int{64, 63}}, // a fall of any size is at least 1
		{[]int{0, 1, 1}, 1, 1000, []int{0, 0, 0}},
		{[]int{0, 16}, 1, 1000, []int{0, 1}},
		{[]int{0, 15}, 1, 1000, []int{0, 0}},
		{[]int{16, 0}, 1, 1000, []int{1024, 1022}},
		{[]int{15, 0}, 1, 1000, []int{960, 959}},
		{[]int{1, 0}, 999, 1000, []int{64, 0}},
		{[]int{0, 1}, 999, 1000, []int{0, 63}},
		{[]int{125, 0}, 1, 1000, []int{8000, 7992}}, // nothing is rounded
		{[]int{0, 125}, 1, 1000, []int{0, 8}},
		{[]int{3, 1, 4, 1, 5}, 0, 7, []int{192, 192, 192, 192, 192}},
		{[]int{3, 1, 4, 1, 5}, 7, 7, []int{192, 64, 256, 64, 320}},
		{[]int{5, 5, 5}, 3, 7, []int{320, 320, 320}},
		{[]int{7}, 1, 2, []int{448}},
		{[]int{7}, 0, 1, []int{448}},
		{[]int{0, 0, 0}, 1, 2, []int{0, 0, 0}},
		{nil, 1, 2, nil},
		{[]int{100000, 0}, 1, 1, []int{6400000, 0}},
		{[]int{0, 100000}, 1, 1, []int{0, 6400000}},
		{[]int{100000, 0, 100000}, 1, 1000, []int{6400000, 6393600, 6393606}},
		{[]int{0, 100000, 0}, 999, 1000, []int{0, 6393600, 6393}},
	} {
		wantSmooth(t, c.list, c.num, c.den, c.want, impl.OK)
		if words, code := smoothByWords(c.list, c.num, c.den); code != impl.OK || !slices.Equal(words, c.want) {
			t.Errorf("%v: by the words %v, %d", c, words, code)
		}
	}
}

func TestSmoothAtTheEdges(t *testing.T) {
	for _, sold := range []int{0, 1, impl.MaxMany - 1, impl.MaxMany} {
		for place := range 3 {
			list := []int{5, 9, 2}
			list[place] = sold
			for _, parts := range [][2]int{{0, 1}, {1, 1}, {1, 2}, {0, 1000}, {1, 1000}, {999, 1000}, {1000, 1000}, {500, 999}} {
				want, code := smoothByWords(list, parts[0], parts[1])
				if code != impl.OK {
					t.Fatal("this should be right", list, parts)
				}
				wantSmooth(t, list, parts[0], parts[1], want, impl.OK)
			}
		}
	}
	for _, den := range []int{1, 2, 999, 1000} {
		for _, num := range []int{0, den} {
			wantSmooth(t, nil, num, den, nil, impl.OK)
			wantSmooth(t, []int{}, num, den, nil, impl.OK)
			wantSmooth(t, []int{4}, num, den, []int{256}, impl.OK)
		}
	}
}

func TestSmoothWhatIsWrong(t *testing.T) {
	lists := [][]int{nil, {5}, {5, 9, 2}, alike(impl.MaxMany, impl.MaxList)}
	for _, list := range lists {
		for _, parts := range [][2]int{
			{0, 0}, {1, 0}, {-1, 0}, {0, -1}, {-1, -1}, {-2, -1}, {-1, -2}, {0, 1001}, {1, 1001}, {1001, 1001}, {1000, 1001}, {0, math.MaxInt}, {math.MaxInt, math.MaxInt}, {0, math.MinInt}, {math.MinInt, math.MinInt},
			{-1, 1}, {2, 1}, {-1, 2}, {3, 2}, {-1, 1000}, {1001, 1000}, {math.MaxInt, 1000}, {math.MinInt, 1000}, {math.MinInt, 1}, {math.MaxInt, 1},
		} {
			wantSmooth(t, list, parts[0], parts[1], nil, impl.ErrBad)
		}
	}
	for _, sold := range []int{math.MinInt, -impl.MaxMany, -1, impl.MaxMany + 1, math.MaxInt} {
		for place := range 3 {
			list := []int{5, 9, 2}
			list[place] = sold
			for _, parts := range [][2]int{{0, 1}, {1, 1}, {1, 2}, {1000, 1000}, {1, 0}} {
				wantSmooth(t, list, parts[0], parts[1], nil, impl.ErrBad)
			}
		}
		wantSmooth(t, []int{sold}, 1, 2, nil, impl.ErrBad)
		wantSmooth(t, append(alike(1, impl.MaxList-1), sold), 1, 2, nil, impl.ErrBad)
	}
}

func TestSmoothOfListsAtTheLimit(t *testing.T) {
	for _, sold := range []int{0, 7, impl.MaxMany} {
		wantSmooth(t, alike(sold, impl.MaxList), 1, 3, alike(64*sold, impl.MaxList), impl.OK)
		wantSmooth(t, alike(sold, impl.MaxList+1), 1, 3, nil, impl.ErrLong)
	}
	for _, sold := range []int{math.MinInt, -1, 0, 7, impl.MaxMany + 1, math.MaxInt} { // too long ahead of what is wrong
		for _, parts := range [][2]int{{1, 3}, {0, 0}, {-1, 3}, {4, 3}, {1, 1001}, {math.MaxInt, math.MinInt}} {
			wantSmooth(t, alike(sold, impl.MaxList+1), parts[0], parts[1], nil, impl.ErrLong)
			wantSmooth(t, alike(sold, 2*impl.MaxList), parts[0], parts[1], nil, impl.ErrLong)
		}
	}
	r := fixed()
	for range 10 {
		num, den := someParts(r)
		wantSmoothByWords(t, someSales(r, impl.MaxList), num, den)
	}
}

func TestP17EveryPartOfARiseAndOfAFall(t *testing.T) {
	for den := 1; den <= 1000; den += 1 + den/20 {
		for num := range den + 1 {
			for _, list := range [][]int{{0, 1}, {1, 0}, {3, 1, 2}, {impl.MaxMany, 0, impl.MaxMany}} {
				wantSmoothByWords(t, list, num, den)
			}
		}
	}
}

func TestP17LevelsLieBetweenWhatWasAndWhatIs(t *testing.T) {
	r := fixed()
	rises, falls, stays := 0, 0, 0
	for range 4000 {
		list := someSales(r, 1+r.IntN(40))
		num, den := someParts(r)
		wantSmoothByWords(t, list, num, den)
		levels, _ := impl.Smooth(list, num, den)
		if levels[0] != impl.Scale*list[0] {
			t.Fatalf("Smooth(%v, %d, %d) = %v: the first level", list, num, den, levels)
		}
		for place, level := range levels[1:] {
			was, is := levels[place], impl.Scale*list[place+1]
			if level < min(was, is) || level > max(was, is) {
				t.Fatalf("Smooth(%v, %d, %d) = %v: %d does not lie between %d and %d", list, num, den, levels, level, was, is)
			}
			switch {
			case level > was:
				rises++
			case level < was:
				falls++
			default:
				stays++
			}
		}
	}
	if min(rises, falls, stays) < 10000 {
		t.Error("too few of one kind", rises, falls, stays)
	}
}

func TestP17AllOfWhatIsOrNothingOfIt(t *testing.T) {
	r := fixed()
	for range 500 {
		list := someSales(r, 1+r.IntN(40))
		for _, den := range []int{1, 2, 7, 999, 1000, 1 + r.IntN(1000)} {
			wantSmooth(t, list, den, den, scaled(list), impl.OK)
			wantSmooth(t, list, 0, den, alike(64*list[0], len(list)), impl.OK)
		}
	}
}

func TestP17ALevelDoesNotHangOnLaterSales(t *testing.T) {
	r := fixed()
	for range 300 {
		list := someSales(r, 1+r.IntN(40))
		num, den := someParts(r)
		levels, _ := impl.Smooth(list, num, den)
		for count := range len(list) + 1 {
			wantSmooth(t, list[:count], num, den, levels[:count], impl.OK)
		}
		longer, code := impl.Smooth(append(slices.Clone(list), someSales(r, 5)...), num, den)
		if code != impl.OK || !slices.Equal(longer[:len(list)], levels) {
			t.Errorf("Smooth(%v, %d, %d) = %v; with later sales %v, %d", list, num, den, levels, longer, code)
		}
	}
}

func TestP17PartsCountByTheirValue(t *testing.T) {
	r := fixed()
	for range 300 {
		list := someSales(r, 1+r.IntN(40))
		den := 1 + r.IntN(500)
		num := r.IntN(den + 1)
		want, code := impl.Smooth(list, num, den)
		for times := 2; times*den <= 1000; times += 1 + r.IntN(30) {
			wantSmooth(t, list, times*num, times*den, want, code)
		}
	}
}
